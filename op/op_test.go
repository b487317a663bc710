package op_test

import (
	"fmt"
	"strings"
	"testing"

	"umpire/api"
	"umpire/op"
)

// line is what the chapter's list says of an F.
type line struct {
	model uint8
	name  string
	needs string // letters of Key, A and B
}

// listed is the chapter's list.
var listed = map[uint8]line{
	1: {0, "read", ""}, 2: {0, "write", "a"}, 3: {0, "cas", "ab"},
	4: {1, "enq", "a"}, 5: {1, "deq", ""},
	6: {2, "get", "k"}, 7: {2, "put", "ka"}, 8: {2, "del", "k"}, 9: {2, "swap", "kab"},
	10: {3, "acquire", ""}, 11: {3, "release", ""},
}

// need tells whether the list says that what the letter is of is needed.
func (l line) need(letter string) bool { return strings.Contains(l.needs, letter) }

// numbers are As and Bs at which the bytes or the digits of a number change, and some between them.
func numbers() []uint16 {
	return []uint16{0, 1, 7, 10, 255, 256, 258, 9999, 10000, 32768, 65280, 65535}
}

// small are Objs and Keys on both sides of the bound, and far behind it.
func small() []uint8 { return []uint8{0, 1, 7, 8, 128, 255} }

// ops are operations of all F, those of none among them, valid or not.
func ops() []api.Op {
	var l []api.Op
	for f := range 256 {
		values := []uint16{0, 7}
		if f <= 12 {
			values = numbers()
		}
		for _, obj := range small() {
			for _, key := range small() {
				for _, a := range values {
					for _, b := range values {
						l = append(l, api.Op{F: uint8(f), Obj: obj, Key: key, A: a, B: b})
					}
				}
			}
		}
	}
	return l
}

// isValid is the definition.
func isValid(x api.Op) bool {
	l, there := listed[x.F]
	return there && x.Obj <= 7 && x.Key <= 7 &&
		(l.need("k") || x.Key == 0) && (l.need("a") || x.A == 0) && (l.need("b") || x.B == 0)
}

// split divides the operations into valid ones and others.
func split() (valid, others []api.Op) {
	for _, x := range ops() {
		if isValid(x) {
			valid = append(valid, x)
		} else {
			others = append(others, x)
		}
	}
	return valid, others
}

// bytesOf are the bytes of a valid operation, by the definition.
func bytesOf(x api.Op) string {
	b, l := []byte{x.F, x.Obj}, listed[x.F]
	if l.need("k") {
		b = append(b, x.Key)
	}
	if l.need("a") {
		b = append(b, byte(x.A/256), byte(x.A%256))
	}
	if l.need("b") {
		b = append(b, byte(x.B/256), byte(x.B%256))
	}
	return string(b)
}

// wordsOf are the words of a valid operation, by the definition, with a space between them.
func wordsOf(x api.Op) string {
	l := listed[x.F]
	s := fmt.Sprint(x.Obj, " ", l.name)
	if l.need("k") {
		s += fmt.Sprint(" ", x.Key)
	}
	if l.need("a") {
		s += fmt.Sprint(" ", x.A)
	}
	if l.need("b") {
		s += fmt.Sprint(" ", x.B)
	}
	return s
}

// TestSplit tells that what the other tests go through holds the edges that the chapter names.
func TestSplit(t *testing.T) {
	valid, others := split()
	among := map[api.Op]bool{}
	for _, x := range valid {
		among[x] = true
	}
	for _, x := range others {
		if among[x] {
			t.Errorf("%v is valid and is not", x)
		}
	}
	for _, x := range []api.Op{
		{F: api.Read, Obj: 7}, {F: api.Get, Obj: 7, Key: 7}, {F: api.Swap, Key: 7, A: 65535, B: 256}, {F: api.CAS, A: 255, B: 65535}, {F: api.Put, A: 256}, {F: api.Release},
	} {
		if !among[x] {
			t.Errorf("%v is not among the valid ones", x)
		}
	}
	for _, x := range []api.Op{
		{}, {F: 12}, {F: 255}, {F: api.Read, Obj: 8}, {F: api.Get, Key: 8}, {F: api.Read, Key: 1}, {F: api.Read, A: 1}, {F: api.Read, B: 1}, {F: api.Write, B: 1}, {F: api.Get, A: 1}, {F: api.Put, B: 1}, {F: api.Write, Key: 1},
	} {
		if among[x] {
			t.Errorf("%v is among the valid ones", x)
		}
	}
}

// TestModel is P4.1 and P4.5 of all F: each has one model, or none.
func TestModel(t *testing.T) {
	for f := range 256 {
		l, there := listed[uint8(f)]
		if m, ok := op.Model(uint8(f)); m != l.model || ok != there {
			t.Errorf("Model(%d): %d, %t", f, m, ok)
		}
	}
}

// TestCheckValid is P4.1 and P4.5 of valid operations: they are of their model, and of no other one.
func TestCheckValid(t *testing.T) {
	valid, _ := split()
	for _, x := range valid {
		for model := range 256 {
			want := api.ErrForeign
			if uint8(model) == listed[x.F].model {
				want = api.OK
			}
			if e := op.Check(uint8(model), x); e != want {
				t.Fatalf("Check(%d, %v): %d", model, x, e)
			}
		}
	}
}

// TestCheckOthers is P4.1 of what is not valid: it is of no model.
func TestCheckOthers(t *testing.T) {
	_, others := split()
	for _, x := range others {
		for _, model := range []uint8{0, 1, 2, 3, 4, 5, 255} {
			if e := op.Check(model, x); e != api.ErrForeign {
				t.Fatalf("Check(%d, %v): %d", model, x, e)
			}
		}
	}
}

// TestCheckExamples are the chapter's examples of Check.
func TestCheckExamples(t *testing.T) {
	for _, c := range []struct {
		model uint8
		x     api.Op
		want  api.Errno
	}{
		{0, api.Op{F: api.Read}, api.OK},
		{1, api.Op{F: api.Read}, api.ErrForeign},
		{0, api.Op{F: api.Read, A: 1}, api.ErrForeign},
		{4, api.Op{F: api.Read}, api.ErrForeign},
	} {
		if e := op.Check(c.model, c.x); e != c.want {
			t.Errorf("Check(%d, %v): %d, and not %d", c.model, c.x, e, c.want)
		}
	}
}
