package event

import (
	"umpire/api"
	"umpire/codec"
	"umpire/op"
	"umpire/result"
)

// Who it is that does something is all that Info and Abort need, and what the other kinds begin with, except Configure.

func ofWho(x api.Event) api.Event {
	return api.Event{Kind: x.Kind, Client: x.Client, ID: x.ID}
}

func fitsWho(api.Event) bool { return true }

func writeWho(w *codec.Writer, x api.Event) {
	w.U8(x.Client)
	w.U16(x.ID)
}

func readWho(r *codec.Reader, x *api.Event) api.Errno {
	x.Client = r.U8()
	x.ID = r.U16()
	return r.Err()
}

func ofInvoke(x api.Event) api.Event {
	n := ofWho(x)
	n.Op = x.Op
	return n
}

func fitsInvoke(x api.Event) bool {
	_, e := op.Put(x.Op)
	return e == api.OK
}

func writeInvoke(w *codec.Writer, x api.Event) {
	writeWho(w, x)
	b, _ := op.Put(x.Op)
	w.Raw(b)
}

func readInvoke(r *codec.Reader, x *api.Event) (e api.Errno) {
	readWho(r, x)
	// What is behind the operation may get lost here: the operation is the last field, and Take finds that its encoding is not all of the bytes.
	x.Op, _, e = op.Take(r.Raw(r.Left()))
	return e
}

func ofReturn(x api.Event) api.Event {
	n := ofWho(x)
	n.Res = x.Res
	return n
}

func fitsReturn(x api.Event) bool { return result.Check(x.Res) == api.OK }

func writeReturn(w *codec.Writer, x api.Event) {
	writeWho(w, x)
	b, _ := result.Put(x.Res)
	w.Raw(b)
}

func readReturn(r *codec.Reader, x *api.Event) (e api.Errno) {
	readWho(r, x)
	x.Res, e = result.Take(r)
	return e
}
