package kvmap_test

import (
	"slices"
	"testing"

	"umpire/api"
	"umpire/kvmap"
)

// past is a second working-out of P11.5: it has no state, but keeps what was done and what the results were, and looks back.
type past struct {
	first   kvmap.State
	ops     []api.Op
	results []api.Result
}

// last returns what was put last at the key, by a Put or by a Swap whose result was Yes; None, if a Del whose result was Yes came after it.
func (p *past) last(key uint8) api.Result {
	for i, op := range slices.Backward(p.ops) {
		switch {
		case op.Key != key:
		case op.F == api.Put:
			return value(op.A)
		case op.F == api.Swap && p.results[i] == yes:
			return value(op.B)
		case op.F == api.Del && p.results[i] == yes:
			return none
		}
	}
	if p.first.Has/(1<<key)%2 == 0 {
		return none
	}
	return value(p.first.V[key])
}

// do returns what the result of op must be.
func (p *past) do(op api.Op) api.Result {
	r, last := no, p.last(op.Key)
	switch {
	case op.F == api.Get:
		r = last
	case op.F == api.Put:
		r = done
	case op.F == api.Del && last != none, op.F == api.Swap && last == value(op.A):
		r = yes
	}
	p.ops, p.results = append(p.ops, op), append(p.results, r)
	return r
}

// state returns the state in which a Get of each key returns what was put last.
func (p *past) state() kvmap.State {
	var s kvmap.State
	for key := range uint8(8) {
		if last := p.last(key); last != none {
			s = with(s, key, last.V)
		}
	}
	return s
}

// follows tells whether Step and Run perform ops as the definitions say.
func follows(t *testing.T, first kvmap.State, ops []api.Op) {
	t.Helper()
	p, s := &past{first: first}, first
	for i, op := range ops {
		r := p.do(op)
		to, got, e := kvmap.Step(s, op)
		if got != r || e != api.OK || to != p.state() {
			t.Fatalf("Step of %v in %v, behind %v from %v: %v, %v, %d, and not %v, %v", op, s, ops[:i], first, to, got, e, p.state(), r)
		}
		s = to
	}
	runs(t, first, ops, p.state(), p.results, api.OK)
}

// TestShortSequences is P11.5: over all lists of up to four operations at two keys, with few numbers.
func TestShortSequences(t *testing.T) {
	some := []api.Op{get(0), put(0, 0), put(0, 256), del(0), swap(0, 0, 256), swap(0, 256, 0), swap(0, 0, 0), put(7, 0), del(7), swap(7, 0, 65535), swap(7, 65535, 65535)}
	for _, first := range []kvmap.State{{}, {Has: 129, V: [8]uint16{0: 256}}, {Has: 255, V: [8]uint16{0, 1, 2, 3, 4, 5, 6, 65535}}} {
		for n := range 1 + 11 + 121 + 1331 + 14641 {
			follows(t, first, numbered(some, n))
		}
	}
}

// TestLongSequences is P11.4 and P11.5: over many lists made by a rule, at one key, at some and at all, of few numbers and of many ones.
func TestLongSequences(t *testing.T) {
	seed := uint32(1)
	next := func(n uint32) uint16 {
		seed = seed*1664525 + 1013904223
		return uint16((seed >> 8) % n)
	}
	for _, keys := range []uint32{1, 2, 8} {
		for _, numbers := range []uint32{1, 2, 3, 300, 65536} {
			for range 30 {
				ops, first := make([]api.Op, 80), kvmap.New()
				for i := range ops {
					f := []uint8{api.Get, api.Put, api.Del, api.Swap, api.Swap, api.Swap}[next(6)]
					ops[i] = api.Op{F: f, Obj: uint8(next(256)), Key: 7 - uint8(next(keys)), A: next(numbers), B: next(numbers)}
				}
				for range next(9) {
					first = with(first, uint8(next(8)), next(numbers))
				}
				follows(t, kvmap.New(), ops)
				follows(t, first, ops)
				independent(t, first, ops)
			}
		}
	}
}

// TestDelAndSwapAreGets is P11.5: the result of Del is Yes exactly if a Get in its place returns a value, and that of Swap, exactly if it returns its A.
func TestDelAndSwapAreGets(t *testing.T) {
	some := []api.Op{put(3, 0), put(3, 1), del(3), swap(3, 0, 1), swap(3, 1, 2), put(4, 2), del(4)}
	told := map[bool]api.Result{true: yes, false: no}
	for n := range 1 + 7 + 49 + 343 + 2401 {
		s, _, _ := kvmap.Run(kvmap.New(), numbered(some, n))
		for key := range uint8(8) {
			_, got, _ := kvmap.Step(s, get(key))
			if _, r, _ := kvmap.Step(s, del(key)); r != told[got.K == api.Value] {
				t.Fatalf("Del of %d behind %v: %v, where a Get is %v", key, numbered(some, n), r, got)
			}
			for a := range uint16(4) {
				if _, r, _ := kvmap.Step(s, swap(key, a, 9)); r != told[got == value(a)] {
					t.Fatalf("Swap of %d at %d behind %v: %v, where a Get is %v", a, key, numbered(some, n), r, got)
				}
			}
		}
	}
}
