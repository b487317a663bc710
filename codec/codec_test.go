package codec_test

import (
	"slices"
	"testing"

	"umpire/api"
	"umpire/codec"
)

// value is one value of any kind that can be written and read back.
type value struct {
	name string
	put  func(w *codec.Writer)
	same func(r *codec.Reader) bool // reads it, and tells whether it is the same
}

func u8(n uint8) value {
	return value{"U8", func(w *codec.Writer) { w.U8(n) }, func(r *codec.Reader) bool { return r.U8() == n }}
}

func u16(n uint16) value {
	return value{"U16", func(w *codec.Writer) { w.U16(n) }, func(r *codec.Reader) bool { return r.U16() == n }}
}

func u32(n uint32) value {
	return value{"U32", func(w *codec.Writer) { w.U32(n) }, func(r *codec.Reader) bool { return r.U32() == n }}
}

func raw(s string) value {
	return value{"Raw", func(w *codec.Writer) { w.Raw(s) }, func(r *codec.Reader) bool { return r.Raw(len(s)) == s }}
}

func list(l ...uint16) value {
	return value{"List", func(w *codec.Writer) { w.List(l) }, func(r *codec.Reader) bool { return slices.Equal(r.List(), l) }}
}

// numbers are n numbers of which neighbours differ in both bytes.
func numbers(n int) []uint16 {
	l := make([]uint16, n)
	for i := range l {
		l[i] = uint16(i) * 257
	}
	return l
}

// written is what a Writer has after these values, and how long it was before each of them and after the last.
func written(t *testing.T, l []value) (string, []int) {
	t.Helper()
	w, s, ends := &codec.Writer{}, "", []int{0}
	for _, v := range l {
		v.put(w)
		b, e := w.Bytes()
		if e != api.OK {
			t.Fatalf("Bytes behind %s: %d", v.name, e)
		}
		s, ends = b, append(ends, len(b))
	}
	return s, ends
}

// values are some of each kind: the least, the greatest, those of which each byte differs, and mixtures of them.
func values() []value {
	l := []value{
		u8(0), u8(255), u16(0), u16(65535), u16(258), u32(0), u32(1<<32 - 1), u32(0x01020304),
		raw(""), raw("ab"), raw("\x00\xff\xc3"), list(), list(0), list(1, 256, 65535), list(numbers(255)...),
	}
	for n := uint32(1); len(l) < 90; n = n*1664525 + 1013904223 {
		switch n >> 29 {
		case 0, 1:
			l = append(l, u8(uint8(n>>8)))
		case 2, 3:
			l = append(l, u16(uint16(n>>8)))
		case 4, 5:
			l = append(l, u32(n))
		case 6:
			l = append(l, raw("0123456789"[:n>>8%11]))
		default:
			l = append(l, list(numbers(int(n>>8%20))...))
		}
	}
	return l
}

// TestRoundTrip is P1.4: what is written is read back, and At and Left are the length together.
func TestRoundTrip(t *testing.T) {
	l := values()
	s, ends := written(t, l)
	r := codec.Over(s)
	for i, v := range l {
		if !v.same(r) || r.Err() != api.OK {
			t.Fatalf("value %d, %s: not read back, error %d", i, v.name, r.Err())
		}
		if r.At() != ends[i+1] || r.At()+r.Left() != len(s) {
			t.Fatalf("value %d, %s: At %d, Left %d of %d", i, v.name, r.At(), r.Left(), len(s))
		}
	}
	if e := r.Close(); e != api.OK {
		t.Errorf("Close: %d", e)
	}
}

// TestPrefix is P1.4: a prefix is torn at the first value that it does not have whole.
func TestPrefix(t *testing.T) {
	l := values()
	s, ends := written(t, l)
	for n := range len(s) {
		r, whole := codec.Over(s[:n]), 0
		for ends[whole+1] <= n {
			if !l[whole].same(r) || r.Err() != api.OK {
				t.Fatalf("%d bytes: value %d, %s: not read back, error %d", n, whole, l[whole].name, r.Err())
			}
			whole++
		}
		l[whole].same(r)
		if r.Err() != api.ErrTorn || r.At() != ends[whole] || r.At()+r.Left() != n {
			t.Fatalf("%d bytes: value %d, %s: error %d, At %d, Left %d", n, whole, l[whole].name, r.Err(), r.At(), r.Left())
		}
	}
}
