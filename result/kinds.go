package result

import (
	"iter"

	"umpire/api"
)

// Kinds yields the kinds of results that operations with this F have. P3.3.
func Kinds(f uint8) iter.Seq[uint8] {
	return func(yield func(uint8) bool) {
		switch f {
		case api.Read:
			yield(api.Value)
		case api.Write, api.Enq, api.Put:
			yield(api.Done)
		case api.Deq, api.Get:
			_ = yield(api.Value) && yield(api.None)
		case api.CAS, api.Del, api.Swap, api.Acquire, api.Release:
			_ = yield(api.Yes) && yield(api.No)
		}
	}
}

// May tells whether an operation with this F may answer r. P3.3.
func May(f uint8, r api.Result) api.Errno {
	if e := Check(r); e != api.OK {
		return e
	}
	for k := range Kinds(f) {
		if k == r.K {
			return api.OK
		}
	}
	return api.ErrForeign
}
