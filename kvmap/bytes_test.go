package kvmap_test

import (
	"testing"

	"umpire/api"
	"umpire/kvmap"
)

// encodes tells whether that is the encoding of s.
func encodes(t *testing.T, s kvmap.State, want string) {
	t.Helper()
	if text := kvmap.Encode(s); text != want {
		t.Errorf("Encode of %v: % x, and not % x", s, text, want)
	}
}

// decodes tells whether Decode of text is that state, or that error.
func decodes(t *testing.T, text string, want kvmap.State, wantErr api.Errno) {
	t.Helper()
	if s, e := kvmap.Decode(text); s != want || e != wantErr {
		t.Errorf("Decode of % x: %v, %d, and not %v, %d", text, s, e, want, wantErr)
	}
}

// encodings are states and their encodings: of no key, of the lowest and the highest one, of several and of all.
func encodings() map[string]kvmap.State {
	return map[string]kvmap.State{
		"\x00":                         {},
		"\x01\x00\x00":                 {Has: 1},
		"\x01\x00\x01":                 {Has: 1, V: [8]uint16{1}},
		"\x01\x00\xff":                 {Has: 1, V: [8]uint16{255}},
		"\x01\x01\x00":                 {Has: 1, V: [8]uint16{256}},
		"\x01\x01\x02":                 {Has: 1, V: [8]uint16{258}},
		"\x01\x02\x01":                 {Has: 1, V: [8]uint16{513}},
		"\x01\xff\xff":                 {Has: 1, V: [8]uint16{65535}},
		"\x08\x80\x00":                 {Has: 8, V: [8]uint16{3: 32768}},
		"\x80\x00\x00":                 {Has: 128},
		"\x80\x01\x02":                 {Has: 128, V: [8]uint16{7: 258}},
		"\x80\xff\xfe":                 {Has: 128, V: [8]uint16{7: 65534}},
		"\x81\x00\x05\x01\x00":         {Has: 129, V: [8]uint16{0: 5, 7: 256}},
		"\x81\x01\x00\x00\x05":         {Has: 129, V: [8]uint16{0: 256, 7: 5}},
		"\x05\x00\x01\x01\x02":         {Has: 5, V: [8]uint16{0: 1, 2: 258}},
		"\x03\x00\x00\x00\x00":         {Has: 3},
		"\x2a\x00\x07\x00\x00\x09\x08": {Has: 42, V: [8]uint16{1: 7, 5: 2312}},
		"\xff\x00\x01\x00\x02\x00\x03\x00\x04\x01\x00\x02\x00\xff\xff\x00\x00": {Has: 255, V: [8]uint16{1, 2, 3, 4, 256, 512, 65535, 0}},
		"\xff\x00\x00\x00\x00\x00\x00\x00\x00\x00\x00\x00\x00\x00\x00\x00\x00": {Has: 255},
	}
}

// text is the encoding of s, as a second working-out.
func text(s kvmap.State) string {
	b := []byte{s.Has}
	for key := range 8 {
		if s.Has/(1<<key)%2 == 1 {
			b = append(b, byte(s.V[key]/256), byte(s.V[key]%256))
		}
	}
	return string(b)
}

// TestEncode is P11.3: which keys there are, and their numbers, by keys, the higher byte first.
func TestEncode(t *testing.T) {
	for want, s := range encodings() {
		encodes(t, s, want)
	}
	for _, s := range examples() {
		encodes(t, s, text(s))
	}
}

// TestEncodeOfSteps is P11.3: it makes no difference in which order keys were put, nor what was there before.
func TestEncodeOfSteps(t *testing.T) {
	for _, ops := range [][]api.Op{
		{put(0, 1), put(2, 258)},
		{put(2, 258), put(0, 1)},
		{put(2, 5), put(7, 9), put(0, 1), del(7), swap(2, 5, 258)},
		{put(1, 300), put(0, 2), del(1), put(2, 258), del(0), put(0, 1), del(1)},
	} {
		s, _, _ := kvmap.Run(kvmap.New(), ops)
		encodes(t, s, "\x05\x00\x01\x01\x02")
	}
}

// TestEncodeOfBroken is P11.3 of states that may not be: numbers whose keys are not there are no part of it.
func TestEncodeOfBroken(t *testing.T) {
	for _, s := range broken() {
		encodes(t, s, text(s))
	}
	encodes(t, kvmap.State{Has: 2, V: [8]uint16{5, 6, 7, 8, 9, 10, 11, 12}}, "\x02\x00\x06")
}

// TestDecode is P11.3: of texts that are encodings.
func TestDecode(t *testing.T) {
	for text, want := range encodings() {
		decodes(t, text, want, api.OK)
	}
}

// TestDecodeOfNone is P11.3: of the empty text, and of encodings that are cut or have bytes behind them.
func TestDecodeOfNone(t *testing.T) {
	decodes(t, "", kvmap.State{}, api.ErrForm)
	for text := range encodings() {
		for n := range len(text) {
			decodes(t, text[:n], kvmap.State{}, api.ErrForm)
		}
		for _, more := range []string{"\x00", "\x01", "\xff", "\x00\x00", "\x00\x01", "\x01\x02", "\x00\x00\x00", text} {
			decodes(t, text+more, kvmap.State{}, api.ErrForm)
		}
	}
	decodes(t, string(make([]byte, 65538)), kvmap.State{}, api.ErrForm)
}

// TestDecodeOfEachLength is P11.3 and P11.6: whichever keys there are, a text is an encoding exactly if it has two bytes for each.
func TestDecodeOfEachLength(t *testing.T) {
	behind := "\x01\x02\x00\x03\x00\x00\xff\xff\x05\x00\x00\x00\x07\x08\x80\x09\x0a\x0b\x0c\x0d"
	for has := range 256 {
		keys := 0
		for key := range 8 {
			keys += has >> key & 1
		}
		for n := range len(behind) + 1 {
			text := string([]byte{byte(has)}) + behind[:n]
			if n != 2*keys {
				decodes(t, text, kvmap.State{}, api.ErrForm)
				continue
			}
			s, e := kvmap.Decode(text)
			if e != api.OK || s.Has != uint8(has) || kvmap.Check(s) != api.OK {
				t.Errorf("Decode of % x: %v, %d", text, s, e)
			}
			encodes(t, s, text)
		}
	}
}

// TestDecodeEncode is P11.6: Decode of Encode is the state, whichever keys are there, with each of some numbers.
func TestDecodeEncode(t *testing.T) {
	for has := range 256 {
		for _, v := range append(edges(), 258, 513, 32768) {
			s := kvmap.State{Has: uint8(has)}
			for key := range uint16(8) {
				if has&(1<<key) != 0 {
					s.V[key] = v + key
				}
			}
			encodes(t, s, text(s))
			decodes(t, text(s), s, api.OK)
			decodes(t, kvmap.Encode(s), s, api.OK)
		}
	}
	for _, s := range examples() {
		decodes(t, kvmap.Encode(s), s, api.OK)
	}
}

// TestEveryNumber is P11.6: each number that there is comes back from its encoding, at the first key and at the last one.
func TestEveryNumber(t *testing.T) {
	for n := range 1 << 16 {
		s := kvmap.State{Has: 133, V: [8]uint16{0: uint16(n), 2: 258, 7: uint16(n)}}
		want := string([]byte{133, byte(n / 256), byte(n % 256), 1, 2, byte(n / 256), byte(n % 256)})
		encodes(t, s, want)
		decodes(t, want, s, api.OK)
		if t.Failed() {
			t.FailNow()
		}
	}
}

// FuzzDecode is P11.3 and P11.6 of all texts.
func FuzzDecode(f *testing.F) {
	for text := range encodings() {
		f.Add(text)
		f.Add(text + "\x00")
		f.Add(text[1:])
	}
	f.Fuzz(func(t *testing.T, text string) {
		s, e := kvmap.Decode(text)
		if e != api.OK {
			decodes(t, text, kvmap.State{}, api.ErrForm)
			return
		}
		encodes(t, s, text)
		if e := kvmap.Check(s); e != api.OK {
			t.Errorf("Check of Decode of % x: %d", text, e)
		}
	})
}
