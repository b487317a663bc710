package queue_test

import (
	"slices"
	"testing"

	"umpire/api"
	"umpire/queue"
)

// TestTwoEnqs is P10.5: of the same state, with different values, whatever it was made by.
func TestTwoEnqs(t *testing.T) {
	for _, l := range examples() {
		for name, s := range made(l) {
			a, _, _ := queue.Step(s, enq(1))
			has(t, a, append(slices.Clone(l), 1)...)
			b, _, _ := queue.Step(s, enq(2))
			c, _, _ := queue.Run(s, []api.Op{enq(3), enq(4)})
			d, _, _ := queue.Run(s, []api.Op{enq(5), deq, enq(6)})
			e, _, _ := queue.Step(a, enq(7))
			f, _, _ := queue.Step(a, enq(8))
			has(t, s, l...)
			has(t, a, append(slices.Clone(l), 1)...)
			has(t, b, append(slices.Clone(l), 2)...)
			has(t, c, append(slices.Clone(l), 3, 4)...)
			has(t, d, append(slices.Clone(l), 5, 6)[1:]...)
			has(t, e, append(slices.Clone(l), 1, 7)...)
			has(t, f, append(slices.Clone(l), 1, 8)...)
			if t.Failed() {
				t.Fatalf("of %v by %s", l, name)
			}
		}
	}
}

// TestTwoEnqsBehindDeq is P10.5: of a state that a Deq left, and of the one that the Deq was done in.
func TestTwoEnqsBehindDeq(t *testing.T) {
	for _, l := range examples() {
		for name, s := range made(append(of(9), l...)) {
			behind, _, _ := queue.Step(s, deq)
			a, _, _ := queue.Step(behind, enq(1))
			b, _, _ := queue.Step(behind, enq(2))
			c, _, _ := queue.Step(s, enq(3))
			d, _, _ := queue.Run(behind, []api.Op{enq(4), enq(5)})
			e, _, _ := queue.Run(s, []api.Op{deq, enq(6), enq(7)})
			has(t, s, append(of(9), l...)...)
			has(t, behind, l...)
			has(t, a, append(slices.Clone(l), 1)...)
			has(t, b, append(slices.Clone(l), 2)...)
			has(t, c, append(append(of(9), l...), 3)...)
			has(t, d, append(slices.Clone(l), 4, 5)...)
			has(t, e, append(slices.Clone(l), 6, 7)...)
			if t.Failed() {
				t.Fatalf("of 9 and %v by %s", l, name)
			}
		}
	}
}

// TestStatesStay is P10.5: a state is what it was, whatever was made from it, over a tree of all steps of some depth.
func TestStatesStay(t *testing.T) {
	type node struct {
		s    queue.State
		want []uint16
	}
	for _, first := range [][]uint16{nil, of(5), of(5, 6, 7)} {
		var all []node
		for _, s := range made(first) {
			all = append(all, node{s, first})
		}
		level := all
		for depth := range uint16(4) {
			var next []node
			for _, n := range level {
				for _, v := range of(10*depth+1, 10*depth+2) {
					stepped, _, _ := queue.Step(n.s, enq(v))
					run, _, _ := queue.Run(n.s, []api.Op{enq(v + 3), deq})
					next = append(next, node{stepped, append(slices.Clone(n.want), v)}, node{run, append(slices.Clone(n.want), v+3)[1:]})
				}
				left, _, _ := queue.Step(n.s, deq)
				next = append(next, node{left, n.want[min(1, len(n.want)):]})
			}
			all, level = append(all, next...), next
		}
		for _, n := range all {
			if got := queue.Values(n.s); !slices.Equal(got, n.want) {
				t.Fatalf("a state from %v is %v, and was %v", first, got, n.want)
			}
		}
	}
}

// TestManyEnqs is P10.5: at each length, where a list may have room behind it.
func TestManyEnqs(t *testing.T) {
	stepped, want := queue.New(), []uint16(nil)
	for n := range uint16(300) {
		run, _, _ := queue.Run(queue.New(), enqs(want))
		text, _ := queue.Decode(queue.Encode(stepped))
		for _, s := range []queue.State{stepped, run, text, queue.Of(want)} {
			a, _, _ := queue.Step(s, enq(1000+n))
			b, _, _ := queue.Run(s, []api.Op{enq(2000 + n), enq(3000 + n)})
			has(t, a, append(slices.Clone(want), 1000+n)...)
			has(t, b, append(slices.Clone(want), 2000+n, 3000+n)...)
			has(t, s, want...)
		}
		stepped, _, _ = queue.Step(stepped, enq(n))
		want = append(want, n)
	}
}

// enqs are the operations that put in these values.
func enqs(l []uint16) []api.Op {
	var ops []api.Op
	for _, v := range l {
		ops = append(ops, enq(v))
	}
	return ops
}
