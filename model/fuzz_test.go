package model_test

import (
	"testing"

	"umpire/api"
	"umpire/model"
)

// isOperation tells whether x is a valid operation of the model, by what the table of the operations says.
func isOperation(of uint8, x api.Op) bool {
	if x.Obj > 7 || x.Key > 7 {
		return false
	}
	key, a, b := x.Key == 0, x.A == 0, x.B == 0
	switch x.F {
	case api.Read:
		return of == api.Register && key && a && b
	case api.Write:
		return of == api.Register && key && b
	case api.CAS:
		return of == api.Register && key
	case api.Enq:
		return of == api.Queue && key && b
	case api.Deq:
		return of == api.Queue && key && a && b
	case api.Get, api.Del:
		return of == api.Map && a && b
	case api.Put:
		return of == api.Map && b
	case api.Swap:
		return of == api.Map
	case api.Acquire, api.Release:
		return of == api.Lock && key && a && b
	}
	return false
}

// FuzzState is P13.1 to P13.7 of all arguments: no call panics, and each has the error that it must have.
func FuzzState(f *testing.F) {
	for of := range uint8(5) {
		for _, text := range []string{"", "\x00", "\x10", "\x11", "\x01\x02", "\x81\x00\x05\x01\x02", "\x00\x01\x00\x02\x00\x03"} {
			for _, ops := range operations() {
				for i, x := range ops {
					f.Add(of, text, uint8(i), x.F, x.Obj, x.Key, x.A, x.B, uint8(i%6), x.A)
				}
			}
		}
		f.Add(of, "\x00", uint8(16), uint8(api.Read), uint8(8), uint8(0), uint16(0), uint16(0), uint8(0), uint16(0))
		f.Add(of, "\x00\x00", uint8(255), uint8(12), uint8(0), uint8(8), uint16(1), uint16(1), uint8(255), uint16(1))
	}
	f.Fuzz(func(t *testing.T, of uint8, text string, client, f, obj, key uint8, a, b uint16, k uint8, v uint16) {
		x, r := api.Op{F: f, Obj: obj, Key: key, A: a, B: b}, api.Result{K: k, V: v}
		s := decodesAsItMust(t, of, text)
		idle := of == api.Register && f == api.Read || of == api.Map && f == api.Get
		if model.Idle(of, f) != idle {
			t.Errorf("Idle of %d and %d: %t", of, f, !idle)
		}
		want := api.OK
		if _, ok := s.Model(); !ok {
			want = api.ErrNil
		} else if client > 15 {
			want = api.ErrArg
		} else if !isOperation(of, x) {
			want = api.ErrForeign
		}
		if want != api.OK {
			refuses(t, s, client, x, want)
			return
		}
		_, result, _ := s.Step(client, x)
		fits(t, s, client, x, r, r == result)
		to := steps(t, s, client, x, result)
		if idle && !model.Same(s, to) {
			t.Errorf("%v in %s leads to %s, though it is idle", x, s.Text(), to.Text())
		}
		decodesAsItMust(t, of, to.Encode())
		if now, _ := to.Model(); now != of || s.Encode() != text {
			t.Errorf("%v in % x of %d leads to %s of %d, and leaves % x", x, text, of, to.Text(), now, s.Encode())
		}
	})
}

// decodesAsItMust tells whether Decode has the error that it must have, and otherwise a state with that encoding; it returns that state, or the zero one.
func decodesAsItMust(t *testing.T, of uint8, text string) model.State {
	t.Helper()
	switch {
	case of > 3:
		decodesNot(t, of, text, api.ErrForeign)
	case !isEncoding(of, text):
		decodesNot(t, of, text, api.ErrForm)
	}
	s, _ := model.Decode(of, text)
	again, _ := model.Decode(of, s.Encode())
	if _, ok := s.Model(); ok && (s.Encode() != text || !model.Same(s, again) || s.Text() != again.Text()) {
		t.Errorf("Decode of %d and % x: %s, % x", of, text, s.Text(), s.Encode())
	}
	if initial, e := model.New(of); e == api.OK && s.Initial() != model.Same(s, initial) {
		t.Errorf("Initial of %s of %d: %t", s.Text(), of, s.Initial())
	}
	return s
}
