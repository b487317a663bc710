package codec

import (
	"slices"

	"umpire/api"
)

// Reader is what is read, and how far.
type Reader struct {
	kept
	at int
}

// Over returns a reader that is positioned before the first byte of s. P1.2.
func Over(s string) *Reader { return &Reader{kept: kept{bytes: []byte(s)}} }

// U8 reads one byte. P1.2.
func (r *Reader) U8() uint8 { return next[uint8](r) }

// U16 reads two bytes. P1.2.
func (r *Reader) U16() uint16 { return next[uint16](r) }

// U32 reads four bytes. P1.2.
func (r *Reader) U32() uint32 { return next[uint32](r) }

// Raw reads n bytes; an n below 0 counts as 0. P1.2.
func (r *Reader) Raw(n int) string { return string(r.take(max(n, 0))) }

// List reads a list, or nothing at all if not all of it is there. P1.2.
func (r *Reader) List() []uint16 {
	if r.Err() != api.OK {
		return nil
	}
	from := r.at
	b := r.take(int(r.U8()) * width[uint16]())
	if r.err != api.OK {
		r.at = from
		return nil
	}
	var l []uint16
	for c := range slices.Chunk(b, width[uint16]()) {
		l = append(l, joined[uint16](c))
	}
	return l
}

// At counts the bytes before the reader. P1.3.
func (r *Reader) At() int {
	if r == nil {
		return 0
	}
	return r.at
}

// Left counts the bytes after the reader. P1.3.
func (r *Reader) Left() int {
	if r == nil {
		return 0
	}
	return len(r.bytes) - r.at
}

// Err returns the first error. P1.3.
func (r *Reader) Err() api.Errno {
	if r == nil {
		return api.ErrNil
	}
	return r.err
}

// Close tells whether everything was read. That bytes are left is no error of the reader: they can still be read. P1.3.
func (r *Reader) Close() api.Errno {
	if e := r.Err(); e != api.OK {
		return e
	}
	if r.Left() > 0 {
		return api.ErrForm
	}
	return api.OK
}

// take returns the next n bytes; none, if they are not all there.
func (r *Reader) take(n int) []byte {
	if r.Err() != api.OK {
		return nil
	}
	if n > r.Left() {
		r.err = api.ErrTorn
		return nil
	}
	b := r.bytes[r.at:][:n]
	r.at += n
	return b
}

func next[N number](r *Reader) N { return joined[N](r.take(width[N]())) }
