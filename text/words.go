package text

import (
	"strconv"
	"strings"

	"umpire/api"
	"umpire/op"
	"umpire/result"
)

// The functions of this file return the words behind the name of a kind, for events that are valid.

func wordsOfConfig(x api.Event) []string {
	c := x.Config
	l := []string{models[c.Model], strconv.Itoa(c.MaxOpen), strconv.Itoa(c.MaxStates), strconv.Itoa(c.MaxSteps)}
	if c.Partition {
		l = append(l, partition)
	}
	if c.Cut {
		l = append(l, cut)
	}
	if c.Memo {
		l = append(l, memo)
	}
	return l
}

// Who it is that does something is all that Info and Abort tell, and what the other kinds begin with, except Configure.
func wordsOfWho(x api.Event) []string {
	return []string{strconv.Itoa(int(x.Client)), strconv.Itoa(int(x.ID))}
}

func wordsOfInvoke(x api.Event) []string {
	return append(wordsOfWho(x), op.Words(x.Op)...)
}

func wordsOfReturn(x api.Event) []string {
	s, _ := result.Text(x.Res)
	return append(wordsOfWho(x), s)
}

func wordsOfBegin(x api.Event) []string {
	l := wordsOfWho(x)
	for _, m := range x.Txn {
		key := strconv.Itoa(int(m.Key))
		if m.Read {
			l = append(l, reads, key)
		} else {
			l = append(l, appends, key, strconv.Itoa(int(m.V)))
		}
	}
	return l
}

func wordsOfCommit(x api.Event) []string {
	l := wordsOfWho(x)
	for _, numbers := range x.Reads {
		l = append(l, wordOfList(numbers))
	}
	return l
}

func wordOfList(numbers []uint16) string {
	if len(numbers) == 0 {
		return empty
	}
	var l []string
	for _, n := range numbers {
		l = append(l, strconv.Itoa(int(n)))
	}
	return strings.Join(l, comma)
}
