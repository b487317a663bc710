package text

import "umpire/api"

// kind is what the lines of the events of one kind have in common.
type kind struct {
	name  string
	words func(x api.Event) []string // those behind the name
	read  func(r *reader, x *api.Event)
}

// kinds returns the kinds, which stand at their numbers. At 0 is none.
func kinds() [api.Abort + 1]kind {
	return [...]kind{
		api.Configure: {name: "config", words: wordsOfConfig, read: (*reader).config},
		api.Invoke:    {name: "invoke", words: wordsOfInvoke, read: (*reader).invoke},
		api.Return:    {name: "return", words: wordsOfReturn, read: (*reader).returned},
		api.Info:      {name: "info", words: wordsOfWho, read: (*reader).who},
		api.Begin:     {name: "begin", words: wordsOfBegin, read: (*reader).begin},
		api.Commit:    {name: "commit", words: wordsOfCommit, read: (*reader).commit},
		api.Abort:     {name: "abort", words: wordsOfWho, read: (*reader).who},
	}
}

// mostWords is how many words a line has at most: that of a Begin whose micros are appends. A wrong line may be of any length, and is not worth more memory than a right one.
const mostWords = 3 + 3*api.MaxMicros

// models are the names of the models.
var models = [...]string{
	api.Register: "register",
	api.Queue:    "queue",
	api.Map:      "map",
	api.Lock:     "lock",
	api.Append:   "append",
}

// The words for what is true of a config.
const (
	partition = "partition"
	cut       = "cut"
	memo      = "memo"
)

// What a micro does.
const (
	reads   = "read"
	appends = "append"
)

// comma is between the numbers of a list, and empty stands for a list that has none.
const (
	comma = ","
	empty = "-"
)
