package queue_test

import (
	"slices"
	"testing"

	"umpire/api"
	"umpire/queue"
)

// past is a second working-out of P10.4: it has all values that were there at first or were put in since, and only counts how many of them were taken out.
type past struct {
	all   []uint16
	taken int
}

// do returns what the result of op must be.
func (p *past) do(op api.Op) api.Result {
	if op.F == api.Enq {
		p.all = append(p.all, op.A)
		return done
	}
	if p.taken == len(p.all) {
		return none
	}
	p.taken++
	return value(p.all[p.taken-1])
}

// left are the values that were not taken out.
func (p *past) left() []uint16 { return p.all[p.taken:] }

// follows tells whether Step and Run perform ops from the values l as P10.4 says.
func follows(t *testing.T, l []uint16, ops []api.Op) {
	t.Helper()
	p, s := &past{all: slices.Clone(l)}, queue.Of(l)
	var results []api.Result
	for i, op := range ops {
		r := p.do(op)
		results = append(results, r)
		to, got, e := queue.Step(s, op)
		if got != r || e != api.OK || !slices.Equal(queue.Values(to), p.left()) {
			t.Fatalf("Step of %v behind %v from %v: %v, %v, %d, and not %v, %v", op, ops[:i], l, queue.Values(to), got, e, p.left(), r)
		}
		s = to
	}
	runs(t, l, ops, p.left(), results, api.OK)
	order(t, l, ops)
}

// order tells whether the values that Run returned, and those that are left, are those that were there and that were put in, in that order.
func order(t *testing.T, l []uint16, ops []api.Op) {
	t.Helper()
	to, results, _ := queue.Run(queue.Of(l), ops)
	in, out := slices.Clone(l), []uint16(nil)
	for i, op := range ops {
		if op.F == api.Enq {
			in = append(in, op.A)
		}
		if results[i].K == api.Value {
			out = append(out, results[i].V)
		}
	}
	if out = append(out, queue.Values(to)...); !slices.Equal(out, in) {
		t.Fatalf("Run of %v from %v: in came %v, and out %v", ops, l, in, out)
	}
}

// TestShortSequences is P10.4: over all lists of up to seven operations with few values.
func TestShortSequences(t *testing.T) {
	some := []api.Op{deq, enq(0), enq(65535)}
	for _, l := range [][]uint16{nil, of(256), of(1, 1), of(5, 0, 7)} {
		lists(some, 7, func(ops []api.Op) { follows(t, l, ops) })
	}
}

// TestLongSequences is P10.4: over many lists made by a rule, of few values and of many ones, of more Enqs than Deqs and of fewer.
func TestLongSequences(t *testing.T) {
	seed := uint32(1)
	next := func(n uint32) uint16 {
		seed = seed*1664525 + 1013904223
		return uint16((seed >> 8) % n)
	}
	for _, values := range []uint32{1, 2, 300, 65536} {
		for _, enqs := range []uint16{1, 3, 5, 7, 9} {
			for range 10 {
				ops := make([]api.Op, 200)
				for i := range ops {
					ops[i] = api.Op{F: api.Deq, Obj: uint8(next(8))}
					if next(10) < enqs {
						ops[i].F, ops[i].A = api.Enq, next(values)
					}
				}
				follows(t, nil, ops)
				follows(t, of(next(values), next(values)), ops)
			}
		}
	}
}
