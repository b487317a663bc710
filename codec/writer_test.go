package codec_test

import (
	"strings"
	"testing"

	"umpire/api"
	"umpire/codec"
)

// holds asks for Bytes twice: asking changes nothing.
func holds(t *testing.T, what string, w *codec.Writer, want string, wantErr api.Errno) {
	t.Helper()
	for range 2 {
		if s, e := w.Bytes(); s != want || e != wantErr {
			t.Errorf("%s: Bytes: %x, %d, and not %x, %d", what, s, e, want, wantErr)
		}
	}
}

// TestWriterExample is the chapter's example.
func TestWriterExample(t *testing.T) {
	w := &codec.Writer{}
	w.U16(258)
	w.U8(7)
	w.List([]uint16{1, 256})
	w.Raw("ab")
	holds(t, "example", w, "\x01\x02\x07\x02\x00\x01\x01\x00\x61\x62", api.OK)
}

// TestWriterEach is P1.1: what each call appends.
func TestWriterEach(t *testing.T) {
	for _, c := range []struct {
		name string
		put  func(w *codec.Writer)
		want string
	}{
		{"nothing", func(w *codec.Writer) {}, ""},
		{"U8 0", func(w *codec.Writer) { w.U8(0) }, "\x00"},
		{"U8 255", func(w *codec.Writer) { w.U8(255) }, "\xff"},
		{"U16 1", func(w *codec.Writer) { w.U16(1) }, "\x00\x01"},
		{"U16 65280", func(w *codec.Writer) { w.U16(65280) }, "\xff\x00"},
		{"U32 1", func(w *codec.Writer) { w.U32(1) }, "\x00\x00\x00\x01"},
		{"U32 of four bytes", func(w *codec.Writer) { w.U32(0xfedcba98) }, "\xfe\xdc\xba\x98"},
		{"Raw of nothing", func(w *codec.Writer) { w.Raw("") }, ""},
		{"Raw", func(w *codec.Writer) { w.Raw("\x00\xff\xc3a") }, "\x00\xff\xc3a"},
		{"List of nil", func(w *codec.Writer) { w.List(nil) }, "\x00"},
		{"List of nothing", func(w *codec.Writer) { w.List([]uint16{}) }, "\x00"},
		{"List", func(w *codec.Writer) { w.List([]uint16{65535, 2}) }, "\x02\xff\xff\x00\x02"},
	} {
		w := &codec.Writer{}
		c.put(w)
		holds(t, c.name, w, c.want, api.OK)
		w.U8(7)
		c.put(w)
		holds(t, c.name+" twice", w, c.want+"\x07"+c.want, api.OK)
	}
}

// TestLongList is P1.1: 255 numbers fit, 256 do not, nor does anything after them.
func TestLongList(t *testing.T) {
	w := &codec.Writer{}
	w.List(make([]uint16, 255))
	holds(t, "255 numbers", w, "\xff"+strings.Repeat("\x00", 510), api.OK)

	for _, n := range []int{256, 257, 512, 65536 + 3} {
		w := &codec.Writer{}
		w.U16(258)
		w.List(make([]uint16, n))
		holds(t, "too many numbers", w, "", api.ErrLong)
		for _, v := range []value{u8(1), u16(1), u32(1), raw("a"), list(1), list(make([]uint16, n)...)} {
			v.put(w)
			holds(t, v.name+" after too many numbers", w, "", api.ErrLong)
		}
	}
}

// TestNilWriter is P1.1.
func TestNilWriter(t *testing.T) {
	var w *codec.Writer
	for _, v := range []value{u8(1), u16(1), u32(1), raw("a"), list(1), list(make([]uint16, 256)...)} {
		v.put(w)
		holds(t, "nil", w, "", api.ErrNil)
	}
}

// TestWriterOwns is the rule that arguments are neither changed nor kept.
func TestWriterOwns(t *testing.T) {
	l := []uint16{1, 2}
	w := &codec.Writer{}
	w.List(l)
	if l[0] != 1 || l[1] != 2 {
		t.Errorf("List changed its argument: %v", l)
	}
	l[0] = 9
	holds(t, "the list changed later", w, "\x02\x00\x01\x00\x02", api.OK)
}

// TestWriterCopies is P1.1 for copies: what is appended to one does not come up in another, whatever the capacity.
func TestWriterCopies(t *testing.T) {
	for n := range 40 {
		text := strings.Repeat("a", n)
		a := codec.Writer{}
		for range n {
			a.Raw("a")
		}
		b := a
		c := b
		a.U8('A')
		b.U8('B')
		c.Raw("")
		c.U8('C')
		again := a
		a = c
		a.U8('D')
		b.U8('E')
		again.List(make([]uint16, 256))
		holds(t, "original", &a, text+"CD", api.OK)
		holds(t, "copy", &b, text+"BE", api.OK)
		holds(t, "copy of a copy", &c, text+"C", api.OK)
		holds(t, "copy that failed", &again, "", api.ErrLong)
	}
}

// TestWriterGrows writes so much that a call that copied all that was there would never end.
func TestWriterGrows(t *testing.T) {
	w := &codec.Writer{}
	for i := range 1 << 20 {
		w.U32(uint32(i))
	}
	if s, e := w.Bytes(); len(s) != 4<<20 || s[len(s)-4:] != "\x00\x0f\xff\xff" || e != api.OK {
		t.Errorf("%d bytes, error %d", len(s), e)
	}
}
