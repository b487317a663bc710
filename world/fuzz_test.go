package world_test

import (
	"testing"

	"umpire/api"
	"umpire/op"
	"umpire/world"
)

// FuzzWorld is P14.1 to P14.5 of all arguments: no call panics, and each has the error that it must have.
func FuzzWorld(f *testing.F) {
	for of := range uint8(5) {
		for _, text := range []string{"", "\x00", "\x08\x00\x00", "\x02\x00\x02\x01\x02", "\x02\x00\x01\x10\x07\x00\x01\x01", "\x06\x00\x03\x08\x00\x05", "\x00\x00\x04\x00\x01\x00\x02\x03\x00\x02\x00\x05"} {
			for _, ops := range operations() {
				for i, x := range ops {
					f.Add(of, text, uint8(i), x.F, uint8(i%9), x.Key, x.A, x.B, uint8(i%6), x.A)
				}
			}
		}
		f.Add(of, "", uint8(16), uint8(api.Read), uint8(8), uint8(0), uint16(0), uint16(0), uint8(0), uint16(0))
		f.Add(of, "", uint8(255), uint8(12), uint8(255), uint8(8), uint16(1), uint16(1), uint8(255), uint16(1))
	}
	f.Fuzz(func(t *testing.T, of uint8, text string, client, f, obj, key uint8, a, b uint16, k uint8, v uint16) {
		if len(text) > 1<<15 {
			t.Skip("a state with more bytes than 16 bits tell is TestTooLongState's")
		}
		x, r := api.Op{F: f, Obj: obj, Key: key, A: a, B: b}, api.Result{K: k, V: v}
		w := decodesAsItMust(t, of, text)
		if fresh, e := world.New(of); (e == api.OK) != (of < 4) || fresh.Encode() != "" || fresh.Text() != "-" {
			t.Errorf("New of %d: %s, %d", of, fresh.Text(), e)
		}
		if _, ok := w.Model(); !ok || obj > 7 {
			isNothing(t, w, obj)
		}
		want := api.OK
		if _, ok := w.Model(); !ok {
			want = api.ErrNil
		} else if client > 15 {
			want = api.ErrArg
		} else if op.Check(of, x) != api.OK {
			want = api.ErrForeign
		}
		if want != api.OK {
			refuses(t, w, client, x, want)
			return
		}
		_, result, _ := w.Step(client, x)
		fits(t, w, client, x, r, r == result)
		to := steps(t, w, client, x, result)
		if back := decodesAsItMust(t, of, to.Encode()); !world.Same(back, to) || back.Text() != to.Text() {
			t.Errorf("Decode of Encode of %s: %s", to.Text(), back.Text())
		}
		if world.Same(w, to) != (w.Encode() == to.Encode()) || world.Same(w, to) != (w.Text() == to.Text()) || w.Encode() != text {
			t.Errorf("%v by %d in % x of %d leads to %s, and leaves % x", x, client, text, of, to.Text(), w.Encode())
		}
	})
}
