package codec_test

import (
	"math"
	"slices"
	"strings"
	"testing"

	"umpire/api"
	"umpire/codec"
)

// stands tells whether a reader is where it should be.
func stands(t *testing.T, what string, r *codec.Reader, at, left int, e, closed api.Errno) {
	t.Helper()
	if r.At() != at || r.Left() != left || r.Err() != e || r.Close() != closed || r.Err() != e {
		t.Errorf("%s: At %d, Left %d, Err %d, Close %d, and not %d, %d, %d, %d",
			what, r.At(), r.Left(), r.Err(), r.Close(), at, left, e, closed)
	}
}

// silent tells whether a reader that has an error, or is nil, answers nothing and stays as it is.
func silent(t *testing.T, what string, r *codec.Reader) {
	t.Helper()
	at, left, e := r.At(), r.Left(), r.Err()
	for _, n := range []int{-1, 0, 1, math.MaxInt} {
		if s := r.Raw(n); s != "" {
			t.Errorf("%s: Raw(%d): %x", what, n, s)
		}
	}
	if a, b, c := r.U8(), r.U16(), r.U32(); a != 0 || b != 0 || c != 0 {
		t.Errorf("%s: U8 %d, U16 %d, U32 %d", what, a, b, c)
	}
	if l := r.List(); len(l) != 0 {
		t.Errorf("%s: List %v", what, l)
	}
	stands(t, what, r, at, left, e, e)
}

// TestReaderExamples are the chapter's examples.
func TestReaderExamples(t *testing.T) {
	r := codec.Over("\x01\x02\x07")
	if n := r.U16(); n != 258 {
		t.Errorf("U16: %d", n)
	}
	stands(t, "behind U16", r, 2, 1, api.OK, api.ErrForm)
	if n := r.U16(); n != 0 {
		t.Errorf("U16 of one byte: %d", n)
	}
	stands(t, "torn", r, 2, 1, api.ErrTorn, api.ErrTorn)
	if n := r.U8(); n != 0 {
		t.Errorf("U8 after an error: %d", n)
	}

	r = codec.Over("\x02\x00\x01\x00")
	if l := r.List(); len(l) != 0 {
		t.Errorf("torn List: %v", l)
	}
	stands(t, "torn List", r, 0, 4, api.ErrTorn, api.ErrTorn)

	r = codec.Over("ab")
	if s := r.Raw(1); s != "a" {
		t.Errorf("Raw: %q", s)
	}
	stands(t, "behind a", r, 1, 1, api.OK, api.ErrForm)
	if s := r.Raw(1); s != "b" {
		t.Errorf("Raw after Close: %q", s)
	}
	stands(t, "behind b", r, 2, 0, api.OK, api.OK)
}

// TestReaderEach is P1.2: what each call reads, and that bytes that are missing leave the reader where it was.
func TestReaderEach(t *testing.T) {
	for _, c := range []struct {
		name, bytes string
		read        func(r *codec.Reader) []uint64
		want, none  []uint64
	}{
		{"U8", "\xfe", func(r *codec.Reader) []uint64 { return []uint64{uint64(r.U8())} }, []uint64{0xfe}, []uint64{0}},
		{"U16", "\xfe\xdc", func(r *codec.Reader) []uint64 { return []uint64{uint64(r.U16())} }, []uint64{0xfedc}, []uint64{0}},
		{"U32", "\xfe\xdc\xba\x98", func(r *codec.Reader) []uint64 { return []uint64{uint64(r.U32())} }, []uint64{0xfedcba98}, []uint64{0}},
		{"Raw", "\xfe\xff\x00", func(r *codec.Reader) []uint64 { return widened([]byte(r.Raw(3))) }, []uint64{0xfe, 0xff, 0}, nil},
		{"List", "\x02\xfe\xdc\x00\x01", func(r *codec.Reader) []uint64 { return widened(r.List()) }, []uint64{0xfedc, 1}, nil},
		{"List of nothing", "\x00", func(r *codec.Reader) []uint64 { return widened(r.List()) }, nil, nil},
		{"List of 255", "\xff" + strings.Repeat("\x00\x07", 255), func(r *codec.Reader) []uint64 { return widened(r.List()) }, slices.Repeat([]uint64{7}, 255), nil},
	} {
		n := len(c.bytes)
		r := codec.Over("#" + c.bytes + "#")
		r.U8()
		if got := c.read(r); !slices.Equal(got, c.want) {
			t.Errorf("%s: %v, and not %v", c.name, got, c.want)
		}
		stands(t, c.name, r, n+1, 1, api.OK, api.ErrForm)

		for cut := range n {
			r := codec.Over("#" + c.bytes[:cut])
			r.U8()
			if got := c.read(r); !slices.Equal(got, c.none) {
				t.Errorf("%s of %d bytes: %v", c.name, cut, got)
			}
			stands(t, "torn "+c.name, r, 1, cut, api.ErrTorn, api.ErrTorn)
			silent(t, "after a torn "+c.name, r)
		}
	}
}

func widened[N uint8 | uint16](l []N) []uint64 {
	var w []uint64
	for _, n := range l {
		w = append(w, uint64(n))
	}
	return w
}

// TestRaw is P1.2: how many bytes are asked for.
func TestRaw(t *testing.T) {
	for _, n := range []int{0, -1, -2, math.MinInt} {
		r := codec.Over("ab")
		if s := r.Raw(n); s != "" {
			t.Errorf("Raw(%d): %q", n, s)
		}
		stands(t, "Raw of nothing", r, 0, 2, api.OK, api.ErrForm)
		if s := r.Raw(2); s != "ab" {
			t.Errorf("Raw of all: %q", s)
		}
		if s := r.Raw(n); s != "" {
			t.Errorf("Raw(%d) at the end: %q", n, s)
		}
		stands(t, "Raw of nothing at the end", r, 2, 0, api.OK, api.OK)
	}
	for _, n := range []int{2, 3, math.MaxInt} {
		r := codec.Over("abc")
		r.U16()
		if s := r.Raw(n); s != "" {
			t.Errorf("Raw(%d) of one byte: %q", n, s)
		}
		stands(t, "Raw of too many", r, 2, 1, api.ErrTorn, api.ErrTorn)
		silent(t, "after Raw of too many", r)
	}
}

// TestOverNothing is P1.2 and P1.3 where there are no bytes: that is no error until one is needed.
func TestOverNothing(t *testing.T) {
	for _, r := range []*codec.Reader{codec.Over(""), {}} {
		stands(t, "no bytes", r, 0, 0, api.OK, api.OK)
		if s := r.Raw(0); s != "" {
			t.Errorf("Raw(0): %q", s)
		}
		if l := r.List(); len(l) != 0 {
			t.Errorf("List: %v", l)
		}
		stands(t, "List of no bytes", r, 0, 0, api.ErrTorn, api.ErrTorn)
		silent(t, "after List of no bytes", r)
	}
}

// TestNilReader is P1.3.
func TestNilReader(t *testing.T) {
	var r *codec.Reader
	stands(t, "nil", r, 0, 0, api.ErrNil, api.ErrNil)
	silent(t, "nil", r)
}

// TestReadersApart is the rule that results are new memory, and that each reader has a state of its own.
func TestReadersApart(t *testing.T) {
	s := "\x02\x00\x01\x00\x02\x02\x00\x03\x00\x04"
	a, b := codec.Over(s), codec.Over(s)
	first := a.List()
	if len(first) != 2 {
		t.Fatalf("List: %v", first)
	}
	first[0] = 9
	_ = append(first, 9, 9)
	c := *a
	if l := a.List(); !slices.Equal(l, []uint16{3, 4}) {
		t.Errorf("second List: %v", l)
	}
	if l := b.List(); !slices.Equal(l, []uint16{1, 2}) {
		t.Errorf("List of another reader: %v", l)
	}
	stands(t, "the other reader", b, 5, 5, api.OK, api.ErrForm)
	stands(t, "a copy", &c, 5, 5, api.OK, api.ErrForm)
}
