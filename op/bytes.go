package op

import (
	"math/bits"

	"umpire/api"
)

// Put returns the bytes of x. P4.2.
func Put(x api.Op) (string, api.Errno) {
	if !valid(x) {
		return "", api.ErrForm
	}
	k := kinds[x.F]
	b := []byte{x.F, x.Obj}
	if k.key {
		b = append(b, x.Key)
	}
	if k.a {
		b = append(b, byte(x.A>>8), byte(x.A))
	}
	if k.b {
		b = append(b, byte(x.B>>8), byte(x.B))
	}
	return string(b), api.OK
}

// Take returns the operation whose bytes s begins with, and what is behind them. P4.2.
func Take(s string) (x api.Op, rest string, e api.Errno) {
	u := &unread{bytes: s}
	x.F = next[uint8](u)
	if u.torn {
		return api.Op{}, "", api.ErrTorn
	}
	k, ok := find(x.F)
	if !ok {
		return api.Op{}, "", api.ErrForm
	}
	x.Obj = next[uint8](u)
	if k.key {
		x.Key = next[uint8](u)
	}
	if k.a {
		x.A = next[uint16](u)
	}
	if k.b {
		x.B = next[uint16](u)
	}
	if u.torn {
		return api.Op{}, "", api.ErrTorn
	}
	if !valid(x) {
		return api.Op{}, "", api.ErrForm
	}
	return x, u.bytes, api.OK
}

// unread is what is left to read, and whether a byte was missing.
type unread struct {
	bytes string
	torn  bool
}

// next reads a number, the high byte first; 0, if a byte of it is missing.
func next[N uint8 | uint16](u *unread) N {
	width := bits.Len16(uint16(^N(0))) / 8
	if len(u.bytes) < width {
		u.torn = true
		return 0
	}
	n := uint16(0)
	for i := range width {
		n = n<<8 | uint16(u.bytes[i])
	}
	u.bytes = u.bytes[width:]
	return N(n)
}
