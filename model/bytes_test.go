package model_test

import (
	"math/bits"
	"strings"
	"testing"

	"umpire/api"
	"umpire/model"
)

// decodes tells whether Decode of t returns a state of that model with that text, and with t as its encoding.
func decodes(t *testing.T, of uint8, encoding, text string) {
	t.Helper()
	s, e := model.Decode(of, encoding)
	if e != api.OK {
		t.Errorf("Decode of %d and % x: %d", of, encoding, e)
		return
	}
	is(t, s, of, text, encoding)
}

// decodesNot tells whether Decode of t returns that error, and the zero State.
func decodesNot(t *testing.T, of uint8, encoding string, want api.Errno) {
	t.Helper()
	s, e := model.Decode(of, encoding)
	if e != want {
		t.Errorf("Decode of %d and % x: %d, and not %d", of, encoding, e, want)
	}
	isZero(t, s)
}

// isEncoding tells whether t is an encoding of a state of the model, by its length and its first byte alone.
func isEncoding(of uint8, t string) bool {
	switch of {
	case api.Register:
		return len(t) == 2
	case api.Queue:
		return len(t)%2 == 0
	case api.Map:
		return len(t) > 0 && len(t) == 1+2*bits.OnesCount8(t[0])
	case api.Lock:
		return len(t) == 1 && t[0] <= 16
	}
	return false
}

// TestDecode is P13.3: of encodings of each model.
func TestDecode(t *testing.T) {
	decodes(t, api.Register, "\x00\x00", "0")
	decodes(t, api.Register, "\x01\x02", "258")
	decodes(t, api.Register, "\xff\xff", "65535")
	decodes(t, api.Queue, "", "[]")
	decodes(t, api.Queue, "\x00\x00", "[0]")
	decodes(t, api.Queue, "\x01\x02\xff\xff\x00\x01", "[258 65535 1]")
	decodes(t, api.Queue, strings.Repeat("\x00\x07", 5000), "["+strings.Repeat("7 ", 4999)+"7]")
	decodes(t, api.Map, "\x00", "{}")
	decodes(t, api.Map, "\x01\x00\x00", "{0:0}")
	decodes(t, api.Map, "\x84\x01\x02\xff\xff", "{2:258 7:65535}")
	decodes(t, api.Map, "\xff\x00\x00\x00\x01\x00\x02\x00\x03\x00\x04\x00\x05\x00\x06\x00\x07", "{0:0 1:1 2:2 3:3 4:4 5:5 6:6 7:7}")
	decodes(t, api.Lock, "\x00", "free")
	decodes(t, api.Lock, "\x01", "held by 0")
	decodes(t, api.Lock, "\x10", "held by 15")
}

// TestDecodeForm is P13.3: of each error that Decode of a chapter has, which is ErrForm whatever it is there.
func TestDecodeForm(t *testing.T) {
	for _, encoding := range []string{"", "\x00", "\x01", "\x00\x00\x00", "\x01\x02\x03\x04"} {
		decodesNot(t, api.Register, encoding, api.ErrForm)
	}
	for _, encoding := range []string{"\x00", "\xff", "\x00\x05\x01", strings.Repeat("\x00\x07", 5000) + "\x00"} {
		decodesNot(t, api.Queue, encoding, api.ErrForm)
	}
	for _, encoding := range []string{"", "\x01", "\x01\x00", "\x00\x00", "\x00\x00\x00", "\x01\x00\x05\x00", "\x81\x00\x05", "\xff\x00\x00\x00\x01\x00\x02\x00\x03\x00\x04\x00\x05\x00\x06\x00"} {
		decodesNot(t, api.Map, encoding, api.ErrForm)
	}
	for _, encoding := range []string{"", "\x11", "\x12", "\xff", "\x00\x00", "\x01\x00"} {
		decodesNot(t, api.Lock, encoding, api.ErrForm)
	}
}

// TestDecodeForeign is P13.3: of each number that is no model, whatever the text.
func TestDecodeForeign(t *testing.T) {
	for of := 4; of < 256; of++ {
		for _, encoding := range []string{"", "\x00", "\x01", "\x11", "\x01\x02", "\x00\x00", "\x01\x00\x05", "\x01\x02\x03\x04\x05"} {
			decodesNot(t, uint8(of), encoding, api.ErrForeign)
		}
	}
}

// TestDecodeOfAll is P13.3 and P13.6: of all texts of up to two bytes, and of some longer ones with each first byte.
func TestDecodeOfAll(t *testing.T) {
	texts := []string{""}
	for a := range 256 {
		for b := range 256 {
			texts = append(texts, string([]byte{byte(a), byte(b)}))
		}
		for n := range 20 {
			texts = append(texts, string([]byte{byte(a)})+strings.Repeat("\x05", n))
		}
	}
	for of := range uint8(5) {
		for _, text := range texts {
			s, e := model.Decode(of, text)
			want := api.OK
			switch {
			case of > 3:
				want = api.ErrForeign
			case !isEncoding(of, text):
				want = api.ErrForm
			}
			if e != want || e == api.OK && s.Encode() != text {
				t.Errorf("Decode of %d and % x: % x, %d, and not %d", of, text, s.Encode(), e, want)
			}
		}
	}
}

// TestDecodeOfEncode is P13.6: of states of each model.
func TestDecodeOfEncode(t *testing.T) {
	for of, states := range some(t) {
		for _, s := range states {
			d, e := model.Decode(uint8(of), s.Encode())
			if e != api.OK || !model.Same(d, s) || !model.Same(s, d) || d.Text() != s.Text() || d.Initial() != s.Initial() {
				t.Errorf("Decode of Encode of %s of %d: %s, %d", s.Text(), of, d.Text(), e)
			}
		}
	}
}

// TestSame is P13.3: states of one model that different steps made.
func TestSame(t *testing.T) {
	for _, c := range []struct {
		of   uint8
		a, b []api.Op
		want bool
	}{
		{api.Register, []api.Op{write(5)}, []api.Op{write(7), read, cas(7, 5)}, true},
		{api.Register, []api.Op{write(5), write(0)}, nil, true},
		{api.Register, []api.Op{write(1)}, []api.Op{write(256)}, false},
		{api.Register, []api.Op{write(5)}, nil, false},
		{api.Queue, []api.Op{enq(1), enq(2), deq}, []api.Op{enq(2)}, true},
		{api.Queue, []api.Op{enq(1), deq}, []api.Op{deq}, true},
		{api.Queue, []api.Op{enq(1), enq(2)}, []api.Op{enq(2), enq(1)}, false},
		{api.Queue, []api.Op{enq(0)}, nil, false},
		{api.Queue, []api.Op{enq(0), enq(0)}, []api.Op{enq(0)}, false},
		{api.Map, []api.Op{put(3, 5), put(1, 2)}, []api.Op{put(1, 9), put(3, 5), swap(1, 9, 2)}, true},
		{api.Map, []api.Op{put(3, 5), del(3)}, []api.Op{put(4, 5), del(4)}, true},
		{api.Map, []api.Op{put(3, 5), del(3), put(3, 0)}, []api.Op{put(3, 0)}, true},
		{api.Map, []api.Op{put(3, 0)}, nil, false},
		{api.Map, []api.Op{put(3, 5)}, []api.Op{put(4, 5)}, false},
		{api.Map, []api.Op{put(3, 5)}, []api.Op{put(3, 6)}, false},
		{api.Lock, []api.Op{acquire, release}, []api.Op{release}, true},
		{api.Lock, []api.Op{acquire, acquire}, []api.Op{release, acquire}, true},
		{api.Lock, []api.Op{acquire}, nil, false},
	} {
		a, b := made(t, c.of, c.a...), made(t, c.of, c.b...)
		if model.Same(a, b) != c.want || model.Same(b, a) != c.want {
			t.Errorf("Same of %s and %s: %t, %t, and not %t", a.Text(), b.Text(), model.Same(a, b), model.Same(b, a), c.want)
		}
	}
}

// TestSameOfUnlike is P13.3: of each state with each one that was listed with it, of the same model and of each other one.
func TestSameOfUnlike(t *testing.T) {
	for of, states := range some(t) {
		for i, s := range states {
			for other, l := range some(t) {
				for j, u := range l {
					if want := of == other && i == j; model.Same(s, u) != want {
						t.Errorf("Same of %s of %d and %s of %d: %t", s.Text(), of, u.Text(), other, !want)
					}
				}
			}
		}
	}
}

// TestSameOfOtherModels is P13.3: states of unlike models are not the same where their encodings are equal.
func TestSameOfOtherModels(t *testing.T) {
	for of := range uint8(4) {
		for other := range uint8(4) {
			for _, encoding := range []string{"", "\x00", "\x00\x05", "\x00\x00", "\x01\x02", "\x01\x00\x05"} {
				a, e := model.Decode(of, encoding)
				b, f := model.Decode(other, encoding)
				if e == api.OK && f == api.OK && model.Same(a, b) != (of == other) {
					t.Errorf("Same of % x of %d and of %d: %t", encoding, of, other, model.Same(a, b))
				}
			}
		}
	}
}
