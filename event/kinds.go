package event

import (
	"umpire/api"
	"umpire/codec"
)

// kind is what the events of one kind have in common.
type kind struct {
	needed func(x api.Event) api.Event // x, without the fields that the kind does not need
	fits   func(x api.Event) bool      // of the fields that it needs, except Client
	write  func(w *codec.Writer, x api.Event)
	read   func(r *codec.Reader, x *api.Event) api.Errno
}

// kinds returns the kinds, which stand at their numbers. At 0 is none.
func kinds() [api.Abort + 1]kind {
	return [...]kind{
		api.Configure: {needed: ofConfigure, fits: fitsConfigure, write: writeConfigure, read: readConfigure},
		api.Invoke:    {needed: ofInvoke, fits: fitsInvoke, write: writeInvoke, read: readInvoke},
		api.Return:    {needed: ofReturn, fits: fitsReturn, write: writeReturn, read: readReturn},
		api.Info:      {needed: ofWho, fits: fitsWho, write: writeWho, read: readWho},
		api.Begin:     {needed: ofBegin, fits: fitsBegin, write: writeBegin, read: readBegin},
		api.Commit:    {needed: ofCommit, fits: fitsCommit, write: writeCommit, read: readCommit},
		api.Abort:     {needed: ofWho, fits: fitsWho, write: writeWho, read: readWho},
	}
}

// find returns the kind with this number, and whether there is one.
func find(n uint8) (kind, bool) {
	if n < api.Configure || n > api.Abort {
		return kind{}, false
	}
	return kinds()[n], true
}
