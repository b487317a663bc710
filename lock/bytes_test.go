package lock_test

import (
	"testing"

	"umpire/api"
	"umpire/lock"
)

// encodes tells whether that is the encoding of s.
func encodes(t *testing.T, s lock.State, want string) {
	t.Helper()
	if text := lock.Encode(s); text != want {
		t.Errorf("Encode of %d: % x, and not % x", s, text, want)
	}
}

// decodes tells whether Decode of text is that state, or that error.
func decodes(t *testing.T, text string, want lock.State, wantErr api.Errno) {
	t.Helper()
	if s, e := lock.Decode(text); s != want || e != wantErr {
		t.Errorf("Decode of % x: %d, %d, and not %d, %d", text, s, e, want, wantErr)
	}
}

// encodings are the encodings of all states, in their order.
const encodings = "\x00\x01\x02\x03\x04\x05\x06\x07\x08\x09\x0a\x0b\x0c\x0d\x0e\x0f\x10"

// TestEncode is P12.3: of each state that there is.
func TestEncode(t *testing.T) {
	for i, s := range states() {
		encodes(t, s, encodings[i:i+1])
	}
}

// TestEncodeOfNone is P12.5 of numbers that are no states: Encode does not panic, and what it returns is not taken for a state.
func TestEncodeOfNone(t *testing.T) {
	for n := 17; n < 256; n++ {
		decodes(t, lock.Encode(lock.State(n)), free, api.ErrForm)
	}
}

// TestDecode is P12.3: of each text of one byte.
func TestDecode(t *testing.T) {
	for n := range 256 {
		text := string([]byte{byte(n)})
		if n > 16 {
			decodes(t, text, free, api.ErrForm)
		} else {
			decodes(t, text, lock.State(n), api.OK)
		}
	}
}

// TestDecodeOfNone is P12.3: of texts that are not of one byte.
func TestDecodeOfNone(t *testing.T) {
	decodes(t, "", free, api.ErrForm)
	for n := range 1 << 16 {
		decodes(t, string([]byte{byte(n >> 8), byte(n)}), free, api.ErrForm)
	}
	for n := 2; n < 20; n++ {
		decodes(t, string(make([]byte, n)), free, api.ErrForm)
	}
	for _, n := range []int{256, 257, 1 << 16, 1<<16 + 1} {
		decodes(t, string(make([]byte, n)), free, api.ErrForm)
	}
}

// TestDecodeEncode is P12.5: Decode of Encode is the state, and the state is what steps lead to.
func TestDecodeEncode(t *testing.T) {
	for _, s := range states() {
		decodes(t, lock.Encode(s), s, api.OK)
	}
	for client := range 16 {
		s, _, _ := lock.Step(lock.New(), uint8(client), acquire)
		decodes(t, encodings[client+1:client+2], s, api.OK)
		s, e := lock.Decode(lock.Encode(s))
		if got, held := lock.Holder(s); int(got) != client || !held || e != api.OK {
			t.Errorf("Holder of Decode of Encode, held by %d: %d, %t, %d", client, got, held, e)
		}
	}
}

// FuzzDecode is P12.3 and P12.5 of all texts: either it is refused, or Encode of what is decoded is the text.
func FuzzDecode(f *testing.F) {
	for n := range 256 {
		f.Add(string([]byte{byte(n)}))
	}
	for n := range len(encodings) {
		f.Add(encodings[:n])
	}
	f.Fuzz(func(t *testing.T, text string) {
		if len(text) != 1 || text[0] > 16 {
			decodes(t, text, free, api.ErrForm)
			return
		}
		s, e := lock.Decode(text)
		if e != api.OK {
			t.Errorf("Decode of % x: %d, %d", text, s, e)
		}
		encodes(t, s, text)
	})
}
