package queue_test

import (
	"slices"
	"testing"

	"umpire/api"
	"umpire/queue"
)

// The operations that the tests perform, and their results.
var (
	deq  = api.Op{F: api.Deq}
	read = api.Op{F: api.Read}
	done = api.Result{K: api.Done}
	none = api.Result{K: api.None}
)

func enq(v uint16) api.Op { return api.Op{F: api.Enq, A: v} }

func value(v uint16) api.Result { return api.Result{K: api.Value, V: v} }

// of is the list of these values.
func of(l ...uint16) []uint16 { return l }

// edges are values that differ in their bytes, up to the least and the greatest.
func edges() []uint16 { return of(0, 1, 255, 256, 65535) }

// examples are values of states: none, one and several.
func examples() [][]uint16 {
	return [][]uint16{nil, of(0), of(65535), of(5), of(5, 7), of(7, 5), of(0, 0), of(3, 1, 2), edges(), slices.Repeat(of(256, 1, 9), 20)}
}

// has tells whether s has these values.
func has(t *testing.T, s queue.State, want ...uint16) {
	t.Helper()
	if l := queue.Values(s); !slices.Equal(l, want) {
		t.Errorf("values %v, and not %v", l, want)
	}
}

// steps tells whether Step of x from the values l leads to those, with that result, and leaves the state that was passed.
func steps(t *testing.T, l []uint16, x api.Op, want []uint16, wantResult api.Result) {
	t.Helper()
	s := queue.Of(l)
	to, r, e := queue.Step(s, x)
	if !slices.Equal(queue.Values(to), want) || r != wantResult || e != api.OK {
		t.Errorf("Step of %v in %v: %v, %v, %d, and not %v, %v", x, l, queue.Values(to), r, e, want, wantResult)
	}
	has(t, s, l...)
}

// refuses tells whether Step of x from the values l is refused as foreign.
func refuses(t *testing.T, l []uint16, x api.Op) {
	t.Helper()
	to, r, e := queue.Step(queue.Of(l), x)
	if !slices.Equal(queue.Values(to), l) || r != (api.Result{}) || e != api.ErrForeign {
		t.Errorf("Step of %v in %v: %v, %v, %d", x, l, queue.Values(to), r, e)
	}
}

// foreign are operations that are not valid, in each way in which they can be so, and a valid one of each F of another model.
func foreign() []api.Op {
	l := []api.Op{
		{F: api.Enq, Obj: 8}, {F: api.Enq, Obj: 255, A: 5}, {F: api.Enq, Key: 1, A: 5}, {F: api.Enq, Key: 7}, {F: api.Enq, Key: 8, A: 5}, {F: api.Enq, A: 5, B: 1}, {F: api.Enq, B: 65535}, {F: api.Enq, B: 256},
		{F: api.Deq, Obj: 8}, {F: api.Deq, Obj: 255}, {F: api.Deq, Key: 1}, {F: api.Deq, Key: 8}, {F: api.Deq, A: 1}, {F: api.Deq, A: 256}, {F: api.Deq, B: 1}, {F: api.Deq, B: 65535}, {F: api.Deq, A: 5, B: 5},
		{F: api.Read}, {F: api.Write, A: 5}, {F: api.CAS, A: 5, B: 6},
		{F: api.Get, Key: 7}, {F: api.Put, Key: 1, A: 5}, {F: api.Del, Key: 1}, {F: api.Swap, Key: 1, A: 5, B: 6},
		{F: api.Acquire}, {F: api.Release},
	}
	for f := range 256 {
		if f != api.Enq && f != api.Deq {
			l = append(l, api.Op{F: uint8(f)}, api.Op{F: uint8(f), Obj: 3, A: 5})
		}
	}
	return l
}

// TestNone is P10.1: New, the zero value, and Of of no values are the same state.
func TestNone(t *testing.T) {
	var zero queue.State
	same := []queue.State{zero, queue.New(), {}, queue.Of(nil), queue.Of([]uint16{})}
	for i, s := range same {
		has(t, s)
		for j, other := range same {
			if !queue.Same(s, other) {
				t.Errorf("Same of %d and %d: false", i, j)
			}
		}
		if text := queue.Encode(s); text != "" {
			t.Errorf("Encode of %d: % x", i, text)
		}
		to, r, e := queue.Step(s, enq(5))
		has(t, to, 5)
		if r != done || e != api.OK {
			t.Errorf("Step of Enq in %d: %v, %d", i, r, e)
		}
		to, r, e = queue.Step(s, deq)
		has(t, to)
		if r != none || e != api.OK {
			t.Errorf("Step of Deq in %d: %v, %d", i, r, e)
		}
	}
}

// TestOf is P10.1: the state with these values, in order.
func TestOf(t *testing.T) {
	for _, l := range examples() {
		has(t, queue.Of(l), l...)
		takes(t, queue.Of(l), l...)
	}
	for _, v := range edges() {
		has(t, queue.Of(of(v)), v)
		takes(t, queue.Of(of(v)), v)
	}
}

// takes tells whether exactly these values can be taken out of s, one after the other.
func takes(t *testing.T, s queue.State, want ...uint16) {
	t.Helper()
	for i, v := range want {
		to, r, e := queue.Step(s, deq)
		if r != value(v) || e != api.OK {
			t.Errorf("Deq %d of %v: %v, %d", i, want, r, e)
		}
		s = to
		has(t, s, want[i+1:]...)
	}
	if to, r, e := queue.Step(s, deq); r != none || e != api.OK || len(queue.Values(to)) != 0 {
		t.Errorf("Deq behind %v: %v, %d, %v", want, r, e, queue.Values(to))
	}
}

// TestOfIsOwn is P10.1: a list that was passed is not kept, nor what is behind it, nor changed.
func TestOfIsOwn(t *testing.T) {
	for _, want := range examples() {
		l := append(slices.Clone(want), 99, 98)
		s := queue.Of(l[:len(want)])
		a, _, _ := queue.Step(s, enq(4))
		b, _, _ := queue.Run(s, []api.Op{enq(6), deq, enq(8)})
		if !slices.Equal(l, append(slices.Clone(want), 99, 98)) {
			t.Errorf("Of of %v left %v", want, l)
		}
		for i := range l {
			l[i] = 77
		}
		_ = append(l[:0], 66)
		has(t, s, want...)
		has(t, a, append(slices.Clone(want), 4)...)
		has(t, b, append(slices.Clone(want), 6, 8)[1:]...)
	}
}

// TestValuesIsOwn is P10.1: a list that was handed back is no part of a state, nor of another list.
func TestValuesIsOwn(t *testing.T) {
	for _, want := range examples() {
		s := queue.Of(want)
		behind, _, _ := queue.Run(queue.Of(append(of(9), want...)), []api.Op{deq})
		for _, s := range []queue.State{s, behind} {
			a, _, _ := queue.Step(s, enq(4))
			first, second := queue.Values(s), queue.Values(s)
			for i := range first {
				first[i] = 77
			}
			_ = append(first, 66, 66, 66)
			_ = append(first[:0], 55)
			has(t, s, want...)
			has(t, a, append(slices.Clone(want), 4)...)
			if !slices.Equal(second, want) {
				t.Errorf("a list that was handed back changed with another one: %v, and not %v", second, want)
			}
		}
	}
}

// TestEnq is P10.1: the value is appended, whatever it is and whatever is there.
func TestEnq(t *testing.T) {
	for _, l := range examples() {
		for _, v := range edges() {
			steps(t, l, enq(v), append(slices.Clone(l), v), done)
		}
	}
}

// TestDeq is P10.1: of no value, of one and of several.
func TestDeq(t *testing.T) {
	steps(t, nil, deq, nil, none)
	for _, v := range edges() {
		steps(t, of(v), deq, nil, value(v))
		steps(t, of(v, 9), deq, of(9), value(v))
		steps(t, of(9, v), deq, of(v), value(9))
		steps(t, of(v, v, v), deq, of(v, v), value(v))
		steps(t, of(v, 1, 2, 3), deq, of(1, 2, 3), value(v))
	}
}

// TestForeign is P10.1: what is not valid, and what is of another model, is refused in every state.
func TestForeign(t *testing.T) {
	for _, x := range foreign() {
		for _, l := range examples() {
			refuses(t, l, x)
		}
	}
}

// TestForeignLeavesTheState is P10.1: the state that comes with an error goes on as the one that was passed.
func TestForeignLeavesTheState(t *testing.T) {
	for _, l := range examples() {
		s := queue.Of(l)
		same, _, _ := queue.Step(s, read)
		a, _, _ := queue.Step(same, enq(1))
		b, _, _ := queue.Step(s, enq(2))
		has(t, a, append(slices.Clone(l), 1)...)
		has(t, b, append(slices.Clone(l), 2)...)
		if !queue.Same(s, same) {
			t.Errorf("Same of %v and what was refused: false", l)
		}
		takes(t, same, l...)
	}
}

// TestObj is P10.1: it makes no difference where the operation is valid.
func TestObj(t *testing.T) {
	for obj := range uint8(api.Objects) {
		for _, l := range examples() {
			for _, v := range edges() {
				steps(t, l, api.Op{F: api.Enq, Obj: obj, A: v}, append(slices.Clone(l), v), done)
			}
			if len(l) == 0 {
				steps(t, l, api.Op{F: api.Deq, Obj: obj}, nil, none)
			} else {
				steps(t, l, api.Op{F: api.Deq, Obj: obj}, l[1:], value(l[0]))
			}
		}
	}
}

// TestIdle is P10.3: of each F that there is, and of ones that are none.
func TestIdle(t *testing.T) {
	for f := range 256 {
		if queue.Idle(uint8(f)) {
			t.Errorf("Idle of %d: true", f)
		}
	}
}

// TestExamples are the chapter's examples.
func TestExamples(t *testing.T) {
	steps(t, nil, enq(5), of(5), done)
	steps(t, of(5), enq(7), of(5, 7), done)
	steps(t, of(5, 7), deq, of(7), value(5))
	steps(t, nil, deq, nil, none)
	runs(t, nil, []api.Op{enq(1), enq(2), deq, enq(3), deq, deq, deq}, nil, []api.Result{done, done, value(1), done, value(2), value(3), none}, api.OK)
	encodes(t, of(5, 258), "\x00\x05\x01\x02")
	decodes(t, "\x00\x05\x01\x02", of(5, 258), api.OK)
	decodes(t, "\x00", nil, api.ErrTorn)
	refuses(t, of(5), read)
	runs(t, of(5), []api.Op{deq, read, deq}, nil, []api.Result{value(5)}, api.ErrForeign)
}
