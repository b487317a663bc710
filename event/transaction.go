package event

import (
	"umpire/api"
	"umpire/codec"
)

// isRead is added to the key of a micro that is a read.
const isRead = 1 << 7

func ofBegin(x api.Event) api.Event {
	n := ofWho(x)
	n.Txn = x.Txn
	return n
}

func fitsBegin(x api.Event) bool {
	if !within(len(x.Txn), api.MaxMicros) {
		return false
	}
	for _, m := range x.Txn {
		if m.Key >= api.Keys || m.Read && m.V != 0 {
			return false
		}
	}
	return true
}

func writeBegin(w *codec.Writer, x api.Event) {
	writeWho(w, x)
	w.U8(uint8(len(x.Txn)))
	for _, m := range x.Txn {
		if m.Read {
			w.U8(m.Key + isRead)
		} else {
			w.U8(m.Key)
			w.U16(m.V)
		}
	}
}

func readBegin(r *codec.Reader, x *api.Event) api.Errno {
	readWho(r, x)
	for range r.U8() {
		x.Txn = append(x.Txn, readMicro(r))
	}
	return r.Err()
}

func readMicro(r *codec.Reader) api.Micro {
	b := r.U8()
	if b >= isRead {
		return api.Micro{Read: true, Key: b - isRead}
	}
	return api.Micro{Key: b, V: r.U16()}
}

func ofCommit(x api.Event) api.Event {
	n := ofWho(x)
	n.Reads = x.Reads
	return n
}

// Each of MaxMicros may be a read, so there are no more lists than that.
func fitsCommit(x api.Event) bool {
	if len(x.Reads) > api.MaxMicros {
		return false
	}
	for _, l := range x.Reads {
		if len(l) > api.MaxList {
			return false
		}
	}
	return true
}

func writeCommit(w *codec.Writer, x api.Event) {
	writeWho(w, x)
	w.U8(uint8(len(x.Reads)))
	for _, l := range x.Reads {
		w.List(l)
	}
}

func readCommit(r *codec.Reader, x *api.Event) api.Errno {
	readWho(r, x)
	for range r.U8() {
		x.Reads = append(x.Reads, r.List())
	}
	return r.Err()
}
