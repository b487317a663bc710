package codec

import (
	"slices"

	"umpire/api"
)

// Writer is what was written; its zero value has written nothing.
type Writer struct {
	kept
	// used is how far the array under bytes is filled. Copies of a Writer share both: one that finds more filled than is its own must not write there.
	used *int
}

// U8 writes one byte. P1.1.
func (w *Writer) U8(n uint8) { w.write(appended(nil, n)) }

// U16 writes two bytes. P1.1.
func (w *Writer) U16(n uint16) { w.write(appended(nil, n)) }

// U32 writes four bytes. P1.1.
func (w *Writer) U32(n uint32) { w.write(appended(nil, n)) }

// Raw writes the bytes of s, and not how many they are. P1.1.
func (w *Writer) Raw(s string) { w.write([]byte(s)) }

// List writes how many numbers there are, and these. P1.1.
func (w *Writer) List(l []uint16) {
	if len(l) > mostOfList {
		w.fail(api.ErrLong)
		return
	}
	b := appended(nil, uint8(len(l)))
	for _, n := range l {
		b = appended(b, n)
	}
	w.write(b)
}

// Bytes returns everything that was written. P1.1.
func (w *Writer) Bytes() (string, api.Errno) {
	if w == nil {
		return "", api.ErrNil
	}
	return string(w.bytes), w.err
}

func (w *Writer) write(b []byte) {
	if w == nil || w.err != api.OK {
		return
	}
	if w.used == nil || *w.used != len(w.bytes) {
		w.bytes, w.used = slices.Clone(w.bytes), new(int)
	}
	w.bytes = append(w.bytes, b...)
	*w.used = len(w.bytes)
}

// fail lets go of what was written, since nobody can ask for it any more.
func (w *Writer) fail(e api.Errno) {
	if w != nil {
		*w = Writer{kept: kept{err: e}}
	}
}
