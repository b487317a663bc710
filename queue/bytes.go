package queue

import "umpire/api"

// Encode returns the encoding of s. P10.3.
func Encode(s State) string {
	b := make([]byte, 0, 2*len(s.values))
	for _, v := range s.values {
		b = append(b, byte(v>>8), byte(v))
	}
	return string(b)
}

// Decode returns the state whose encoding is t. P10.3.
func Decode(t string) (State, api.Errno) {
	if len(t)%2 != 0 {
		return State{}, api.ErrTorn
	}
	var s State
	for i := 0; i < len(t); i += 2 {
		s.values = append(s.values, uint16(t[i])<<8|uint16(t[i+1]))
	}
	return s, api.OK
}
