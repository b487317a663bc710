package kvmap

import (
	"umpire/api"
	"umpire/codec"
)

// Encode returns the encoding of s. P11.3.
func Encode(s State) string {
	w := &codec.Writer{}
	w.U8(s.Has)
	for key, v := range s.V {
		if s.has(uint8(key)) {
			w.U16(v)
		}
	}
	// Only a list can be too long for a Writer.
	t, _ := w.Bytes()
	return t
}

// Decode returns the state whose encoding is t. P11.3.
func Decode(t string) (State, api.Errno) {
	r := codec.Over(t)
	s := State{Has: r.U8()}
	for key := range s.V {
		if s.has(uint8(key)) {
			s.V[key] = r.U16()
		}
	}
	if r.Close() != api.OK {
		return State{}, api.ErrForm
	}
	return s, api.OK
}
