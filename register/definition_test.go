package register_test

import (
	"slices"
	"testing"

	"umpire/api"
	"umpire/register"
)

// past is a second working-out of the definitions: it has no state, but keeps what was done and what the results were, and looks back.
type past struct {
	ops     []api.Op
	results []api.Result
}

// written returns what was written last: by a Write, or by a CAS whose result was Yes; first, if there is none.
func (p *past) written(first uint16) uint16 {
	for i, op := range slices.Backward(p.ops) {
		switch {
		case op.F == api.Write:
			return op.A
		case op.F == api.CAS && p.results[i].K == api.Yes:
			return op.B
		}
	}
	return first
}

// do returns what the result of op must be, by P9.4.
func (p *past) do(first uint16, op api.Op) api.Result {
	r := api.Result{K: api.Done}
	last := p.written(first)
	switch {
	case op.F == api.Read:
		r = api.Result{K: api.Value, V: last}
	case op.F == api.CAS && op.A == last:
		r = api.Result{K: api.Yes}
	case op.F == api.CAS:
		r = api.Result{K: api.No}
	}
	p.ops, p.results = append(p.ops, op), append(p.results, r)
	return r
}

// follows tells whether Step and Run perform ops as the definitions say.
func follows(t *testing.T, first uint16, ops []api.Op) {
	t.Helper()
	p, s := &past{}, register.State(first)
	for i, op := range ops {
		r := p.do(first, op)
		to, got, e := register.Step(s, op)
		if got != r || e != api.OK || uint16(to) != p.written(first) {
			t.Fatalf("Step of %v in %d, behind %v from %d: %d, %v, %d, and not %d, %v", op, s, ops[:i], first, to, got, e, p.written(first), r)
		}
		s = to
	}
	runs(t, register.State(first), ops, register.State(p.written(first)), p.results, api.OK)
}

// TestShortSequences is P9.4: over all lists of up to four operations with few numbers.
func TestShortSequences(t *testing.T) {
	some := []api.Op{read, write(0), write(65535), write(256), cas(0, 65535), cas(65535, 256), cas(256, 0), cas(0, 0), cas(256, 65535)}
	for _, first := range []uint16{0, 256, 65535} {
		lists(some, 4, func(ops []api.Op) { follows(t, first, ops) })
	}
}

// TestLongSequences is P9.4: over many lists made by a rule, of few numbers and of many ones.
func TestLongSequences(t *testing.T) {
	seed := uint32(1)
	next := func(n uint32) uint16 {
		seed = seed*1664525 + 1013904223
		return uint16((seed >> 8) % n)
	}
	for _, numbers := range []uint32{1, 2, 3, 5, 300, 65536} {
		for range 40 {
			ops := make([]api.Op, 60)
			for i := range ops {
				f := []uint8{api.Read, api.Write, api.CAS, api.CAS, api.CAS}[next(5)]
				ops[i] = api.Op{F: f, Obj: uint8(next(256)), Key: uint8(next(256)), A: next(numbers), B: next(numbers)}
			}
			follows(t, 0, ops)
			follows(t, next(numbers), ops)
		}
	}
}

// TestCASIsARead is P9.4: its result is Yes exactly if a Read in its place returns its A.
func TestCASIsARead(t *testing.T) {
	some := []api.Op{write(1), write(2), cas(1, 2), cas(2, 3), cas(3, 1), cas(0, 3), read}
	lists(some, 4, func(ops []api.Op) {
		for a := range uint16(4) {
			_, l, _ := register.Run(register.New(), append(slices.Clone(ops), read))
			_, m, _ := register.Run(register.New(), append(slices.Clone(ops), cas(a, 9)))
			want := no
			if l[len(ops)] == value(a) {
				want = yes
			}
			if m[len(ops)] != want {
				t.Fatalf("CAS of %d behind %v: %v, where a Read is %v", a, ops, m[len(ops)], l[len(ops)])
			}
		}
	})
}
