package world_test

import (
	"math/bits"
	"strings"
	"testing"

	"umpire/api"
	"umpire/world"
)

// decodes tells whether Decode of that encoding returns a world of that model with that text, and with it as its encoding.
func decodes(t *testing.T, of uint8, encoding, text string, listed ...uint8) {
	t.Helper()
	w, e := world.Decode(of, encoding)
	if e != api.OK {
		t.Errorf("Decode of %d and % x: %d", of, encoding, e)
		return
	}
	is(t, w, of, text, encoding, listed...)
}

// decodesNot tells whether Decode returns that error, and the zero World.
func decodesNot(t *testing.T, of uint8, encoding string, want api.Errno) {
	t.Helper()
	w, e := world.Decode(of, encoding)
	if e != want {
		t.Errorf("Decode of %d and % x: %d, and not %d", of, encoding, e, want)
	}
	isZero(t, w)
}

// isState tells whether t is an encoding of a state of the model, by its length and its first byte alone.
func isState(of uint8, t string) bool {
	switch of {
	case api.Register:
		return len(t) == 2
	case api.Queue:
		return len(t)%2 == 0
	case api.Map:
		return len(t) > 0 && len(t) == 1+2*bits.OnesCount8(t[0])
	}
	return len(t) == 1 && t[0] <= 16
}

// isInitial tells whether t is an encoding of the initial state of the model.
func isInitial(of uint8, t string) bool {
	return t == [...]string{api.Register: "\x00\x00", api.Queue: "", api.Map: "\x00", api.Lock: "\x00"}[of]
}

// errorOf is the error that Decode of t must have: that of the first object, or that of what is behind it, in which only greater numbers are good.
func errorOf(of uint8, t string, above int) api.Errno {
	switch {
	case of > 3:
		return api.ErrForeign
	case t == "":
		return api.OK
	case len(t) < 3 || len(t)-3 < int(t[1])*256+int(t[2]):
		return api.ErrTorn
	}
	obj, behind := int(t[0]), 3+int(t[1])*256+int(t[2])
	if encoding := t[3:behind]; obj <= above || obj > 7 || !isState(of, encoding) || isInitial(of, encoding) {
		return api.ErrForm
	}
	return errorOf(of, t[behind:], obj)
}

// decodesAsItMust tells whether Decode has the error that it must have, and otherwise a world with that encoding; it returns that world, or the zero one.
func decodesAsItMust(t *testing.T, of uint8, encoding string) world.World {
	t.Helper()
	if want := errorOf(of, encoding, -1); want != api.OK {
		decodesNot(t, of, encoding, want)
		return world.World{}
	}
	w, e := world.Decode(of, encoding)
	if got, ok := w.Model(); e != api.OK || w.Encode() != encoding || got != of || !ok {
		t.Errorf("Decode of %d and % x: %s of %d, % x, %d", of, encoding, w.Text(), got, w.Encode(), e)
	}
	return w
}

// TestEncode is P14.3: of each model, with one object and with several.
func TestEncode(t *testing.T) {
	is(t, made(t, api.Register, on(0, write(1))), api.Register, "0=1", "\x00\x00\x02\x00\x01", 0)
	is(t, made(t, api.Register, on(7, write(258)), on(3, write(65535))), api.Register, "3=65535 7=258", "\x03\x00\x02\xff\xff\x07\x00\x02\x01\x02", 3, 7)
	is(t, made(t, api.Queue, on(0, enq(0))), api.Queue, "0=[0]", "\x00\x00\x02\x00\x00", 0)
	is(t, made(t, api.Queue, on(4, enq(258)), on(2, enq(1)), on(4, enq(0))), api.Queue, "2=[1] 4=[258 0]", "\x02\x00\x02\x00\x01\x04\x00\x04\x01\x02\x00\x00", 2, 4)
	is(t, made(t, api.Map, on(0, put(0, 0))), api.Map, "0={0:0}", "\x00\x00\x03\x01\x00\x00", 0)
	is(t, made(t, api.Map, on(5, put(7, 258)), on(5, put(0, 1)), on(1, put(1, 2))), api.Map, "1={1:2} 5={0:1 7:258}", "\x01\x00\x03\x02\x00\x02\x05\x00\x05\x81\x00\x01\x01\x02", 1, 5)
	is(t, made(t, api.Lock, on(0, acquire)), api.Lock, "0=held by 0", "\x00\x00\x01\x01", 0)
	w := after(t, newOf(t, api.Lock), call{15, on(7, acquire)}, call{9, on(6, acquire)})
	is(t, w, api.Lock, "6=held by 9 7=held by 15", "\x06\x00\x01\x0a\x07\x00\x01\x10", 6, 7)
}

// TestEncodeOfEach is P14.3 and P14.5: of worlds of each model, for each set of objects that are listed; Decode of it is the world.
func TestEncodeOfEach(t *testing.T) {
	each(t, func(s sample) {
		is(t, s.w, s.of, s.text, s.encoding, s.listed...)
		decodes(t, s.of, s.encoding, s.text, s.listed...)
		if w, _ := world.Decode(s.of, s.encoding); !world.Same(w, s.w) || !world.Same(s.w, w) {
			t.Errorf("Decode of Encode of %s: %s", s.text, w.Text())
		}
	})
}

// TestDecodeGoesOn is P14.5: what was decoded is followed by steps as the world is.
func TestDecodeGoesOn(t *testing.T) {
	for _, s := range some(t) {
		w, _ := world.Decode(s.of, s.encoding)
		for i, x := range operations()[s.of] {
			x = on(uint8(i%8), x)
			_, r, _ := s.w.Step(9, x)
			if to := steps(t, w, 9, x, r); !world.Same(to, steps(t, s.w, 9, x, r)) {
				t.Errorf("Step of %v in what was decoded: %s", x, to.Text())
			}
		}
	}
}

// TestLongState is P14.3: of queues whose state has 255 bytes or so, 256 and more, and as many as 16 bits tell.
func TestLongState(t *testing.T) {
	for numbers, length := range map[int]string{127: "\x00\xfe", 128: "\x01\x00", 129: "\x01\x02", 256: "\x02\x00", 32767: "\xff\xfe"} {
		long := length + strings.Repeat("\x00\x07", numbers)
		text := "[" + strings.Repeat("7 ", numbers-1) + "7]"
		decodes(t, api.Queue, "\x04"+long, "4="+text, 4)
		decodes(t, api.Queue, "\x01\x00\x02\x00\x05\x04"+long+"\x07"+long, "1=[5] 4="+text+" 7="+text, 1, 4, 7)
		decodesNot(t, api.Queue, "\x04"+long[:len(long)-1], api.ErrTorn)
		decodesNot(t, api.Queue, "\x04"+long+"\x07"+long[:len(long)-1], api.ErrTorn)
		decodesNot(t, api.Queue, "\x04"+long+"\x04"+long, api.ErrForm)
	}
	w := newOf(t, api.Queue)
	for range 300 {
		w = after(t, w, call{3, on(6, enq(7))})
	}
	is(t, w, api.Queue, "6=["+strings.Repeat("7 ", 299)+"7]", "\x06\x02\x58"+strings.Repeat("\x00\x07", 300), 6)
}

// TestTooLongState is P14.3 and P14.5: of a queue whose state has more bytes than 16 bits tell, of which the encoding tells the lowest 16; the world is another one than each with fewer.
func TestTooLongState(t *testing.T) {
	full, e := world.Decode(api.Queue, "\x05\xff\xfe"+strings.Repeat("\x00\x07", 32767))
	if e != api.OK {
		t.Fatalf("Decode of 32767 numbers: %d", e)
	}
	w := steps(t, full, 0, on(5, enq(7)), done)
	is(t, w, api.Queue, "5=["+strings.Repeat("7 ", 32767)+"7]", "\x05\x00\x00"+strings.Repeat("\x00\x07", 32768), 5)
	if world.Same(w, full) || world.Same(w, newOf(t, api.Queue)) || !world.Same(w, w) {
		t.Error("Same of a queue of 32768 numbers")
	}
	is(t, steps(t, w, 0, on(5, deq), value(7)), api.Queue, full.Text(), full.Encode(), 5)
}

// TestDecodeTorn is P14.3: bytes missing at each place, also behind an object that is whole, and where a byte that is there is already wrong.
func TestDecodeTorn(t *testing.T) {
	whole := [4]string{"\x02\x00\x02\x00\x05", "\x02\x00\x04\x00\x05\x01\x02", "\x02\x00\x05\x81\x00\x05\x01\x02", "\x02\x00\x01\x10"}
	texts := [4]string{"2=5 7=5", "2=[5 258] 7=[5 258]", "2={0:5 7:258} 7={0:5 7:258}", "2=held by 15 7=held by 15"}
	for of, t1 := range whole {
		t2 := "\x07" + t1[1:]
		decodes(t, uint8(of), t1+t2, texts[of], 2, 7)
		for n := 1; n < len(t1); n++ {
			decodesNot(t, uint8(of), t1[:n], api.ErrTorn)
			decodesNot(t, uint8(of), t1+t2[:n], api.ErrTorn)
			decodesNot(t, uint8(of), "\x08"+t1[1:n], api.ErrTorn)
			decodesNot(t, uint8(of), "\xff"+t1[1:n], api.ErrTorn)
			decodesNot(t, uint8(of), t1+t1[:n], api.ErrTorn)
			decodesNot(t, uint8(of), t1+"\x01"+t1[1:n], api.ErrTorn)
		}
		decodesNot(t, uint8(of), "\x02\x01\x00"+strings.Repeat("\x00", 255), api.ErrTorn)
		decodesNot(t, uint8(of), "\x02\xff\xff"+strings.Repeat("\x00", 65534), api.ErrTorn)
		decodesNot(t, uint8(of), "\x02\x00\x01", api.ErrTorn)
		decodesNot(t, uint8(of), "\x02\xff\xff", api.ErrTorn)
	}
}

// TestDecodeForm is P14.3: numbers above 7, and not above the one before; what model.Decode refuses; the initial state's bytes; and each of these behind an object that is whole.
func TestDecodeForm(t *testing.T) {
	good := [4]string{"\x00\x02\x00\x05", "\x00\x02\x00\x00", "\x00\x03\x01\x00\x05", "\x00\x01\x01"}
	bad := [4][]string{
		{"\x00\x00", "\x00\x01\x05", "\x00\x03\x00\x05\x00", "\x00\x04\x00\x05\x00\x05", "\x01\x00" + strings.Repeat("\x05", 256), "\x00\x02\x00\x00"},
		{"\x00\x01\x05", "\x00\x03\x00\x05\x00", "\x01\x01" + strings.Repeat("\x05", 257), "\x00\x00"},
		{"\x00\x00", "\x00\x01\x01", "\x00\x02\x01\x00", "\x00\x04\x01\x00\x05\x00", "\x00\x03\x00\x00\x00", "\x00\x03\x03\x00\x05", "\x00\x01\x00"},
		{"\x00\x00", "\x00\x01\x11", "\x00\x01\xff", "\x00\x02\x01\x01", "\x00\x02\x00\x01", "\x00\x01\x00"},
	}
	for m := range good {
		of := uint8(m)
		for obj := range 256 {
			n := string([]byte{byte(obj)})
			if obj > 7 {
				decodesNot(t, of, n+good[of], api.ErrForm)
				decodesNot(t, of, "\x07"+good[of]+n+good[of], api.ErrForm)
			}
			for _, b := range bad[of] {
				decodesNot(t, of, n+b, api.ErrForm)
				decodesNot(t, of, n+b+"\x07"+good[of], api.ErrForm)
				decodesNot(t, of, "\x00"+good[of]+n+b, api.ErrForm)
			}
		}
		for obj := range byte(8) {
			for next := range byte(8) {
				encoding := string([]byte{obj}) + good[of] + string([]byte{next}) + good[of]
				if next <= obj {
					decodesNot(t, of, encoding, api.ErrForm)
				} else if _, e := world.Decode(of, encoding); e != api.OK {
					t.Errorf("Decode of %d and % x: %d", of, encoding, e)
				}
			}
		}
		decodesNot(t, of, "\x01"+good[of]+"\x05"+good[of]+"\x02"+good[of], api.ErrForm)
		decodesNot(t, of, "\x01"+good[of]+"\x05"+good[of]+"\x01"+good[of], api.ErrForm)
	}
}

// TestDecodeFirstError is P14.3: of an object whose bytes are missing it is ErrTorn, whatever is wrong; of several objects it is the error of the first one that has any.
func TestDecodeFirstError(t *testing.T) {
	for _, encoding := range []string{"\x08", "\x08\x00", "\x08\x00\x02", "\x08\x00\x02\x05", "\xff\x00\x03\x00\x00", "\x05\x00\x01", "\x05\x00\x02\x00\x05\x05", "\x05\x00\x02\x00\x05\x04\x00", "\x05\x00\x02\x00\x05\x08\x00\x02\x00"} {
		decodesNot(t, api.Register, encoding, api.ErrTorn)
	}
	for _, encoding := range []string{"\x08\x00\x02\x00\x05\x09", "\x05\x00\x01\x05\x06", "\x05\x00\x02\x00\x00\x06\x00", "\x05\x00\x00\x06\x00\x02\x05", "\x05\x00\x02\x00\x05\x05\x00\x02\x00\x05\x07", "\x05\x00\x02\x00\x05\x04\x00\x00\x07"} {
		decodesNot(t, api.Register, encoding, api.ErrForm)
	}
}

// TestDecodeForeign is P14.3: of each number that is no model, whatever the text.
func TestDecodeForeign(t *testing.T) {
	for of := 4; of < 256; of++ {
		for _, encoding := range []string{"", "\x00", "\x08", "\x00\x00", "\x08\x00\x00", "\x02\x00\x02\x00\x05", "\x02\x00\x02\x00", "\x02\x00\x01\x01", "\x02\x00\x03\x01\x00\x05"} {
			decodesNot(t, uint8(of), encoding, api.ErrForeign)
		}
	}
}

// TestDecodeOfAll is P14.3 and P14.5: of all texts of a few bytes from which objects can be made, good ones and wrong ones.
func TestDecodeOfAll(t *testing.T) {
	for of := range uint8(5) {
		good := 0
		level := []string{""}
		for range 7 {
			var next []string
			for _, text := range level {
				for _, b := range []byte{0, 1, 2, 3, 8} {
					next = append(next, text+string([]byte{b}))
				}
			}
			level = next
			for _, text := range level {
				if w := decodesAsItMust(t, of, text); w != (world.World{}) {
					good++
				}
			}
		}
		if (good > 0) != (of < 4) {
			t.Errorf("%d texts of %d are good", good, of)
		}
	}
}

// TestDecodePrefix is P14.3: of each prefix of an encoding, which is one where an object ends.
func TestDecodePrefix(t *testing.T) {
	each(t, func(s sample) {
		for n := range len(s.encoding) {
			decodesAsItMust(t, s.of, s.encoding[:n])
		}
	})
}

// TestDecodeChanged is P14.3: of an encoding of which one byte is another one, or is there twice, or is missing.
func TestDecodeChanged(t *testing.T) {
	for _, s := range some(t) {
		for n := range len(s.encoding) {
			front, back := s.encoding[:n], s.encoding[n+1:]
			for b := range 256 {
				decodesAsItMust(t, s.of, front+string([]byte{byte(b)})+back)
			}
			decodesAsItMust(t, s.of, front+back)
			decodesAsItMust(t, s.of, front+s.encoding[n:n+1]+s.encoding[n:])
		}
	}
}
