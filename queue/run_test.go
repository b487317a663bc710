package queue_test

import (
	"slices"
	"testing"

	"umpire/api"
	"umpire/queue"
)

// runs tells whether Run of ops from the values l leads to those, with those results and that error, and leaves the state that was passed.
func runs(t *testing.T, l []uint16, ops []api.Op, want []uint16, wantResults []api.Result, wantErr api.Errno) {
	t.Helper()
	s := queue.Of(l)
	to, results, e := queue.Run(s, ops)
	if !slices.Equal(queue.Values(to), want) || !slices.Equal(results, wantResults) || e != wantErr {
		t.Errorf("Run of %v from %v: %v, %v, %d, and not %v, %v, %d", ops, l, queue.Values(to), results, e, want, wantResults, wantErr)
	}
	has(t, s, l...)
}

// oneByOne performs ops by Step, up to the first error.
func oneByOne(s queue.State, ops []api.Op) (queue.State, []api.Result, api.Errno) {
	var l []api.Result
	for _, op := range ops {
		to, r, e := queue.Step(s, op)
		if e != api.OK {
			return s, l, e
		}
		s, l = to, append(l, r)
	}
	return s, l, api.OK
}

// lists calls do with each list of up to most of these.
func lists[T any](some []T, most int, do func([]T)) {
	var longer func(l []T)
	longer = func(l []T) {
		do(l)
		if len(l) == most {
			return
		}
		for _, x := range some {
			longer(append(slices.Clone(l), x))
		}
	}
	longer(nil)
}

// TestRunOfNothing is P10.2: nil and empty lists.
func TestRunOfNothing(t *testing.T) {
	for _, l := range examples() {
		runs(t, l, nil, l, nil, api.OK)
		runs(t, l, []api.Op{}, l, nil, api.OK)
	}
}

// TestRunOfOwn is P10.2: lists of the queue's operations.
func TestRunOfOwn(t *testing.T) {
	for _, v := range edges() {
		runs(t, nil, []api.Op{enq(v)}, of(v), []api.Result{done}, api.OK)
		runs(t, nil, []api.Op{deq}, nil, []api.Result{none}, api.OK)
		runs(t, nil, []api.Op{deq, enq(v), deq, deq}, nil, []api.Result{none, done, value(v), none}, api.OK)
		runs(t, of(v), []api.Op{deq, deq, enq(9)}, of(9), []api.Result{value(v), none, done}, api.OK)
		runs(t, of(3, v), []api.Op{enq(9), deq, enq(8), deq}, of(9, 8), []api.Result{done, value(3), done, value(v)}, api.OK)
	}
	runs(t, of(3, 4), []api.Op{{F: api.Enq, Obj: 7, A: 5}, {F: api.Deq, Obj: 2}}, of(4, 5), []api.Result{done, value(3)}, api.OK)
}

// TestRunOfForeign is P10.2: the first operation that is refused ends it, wherever it is; those behind it, refused or not, make no difference.
func TestRunOfForeign(t *testing.T) {
	for _, other := range foreign() {
		for _, l := range examples() {
			runs(t, l, []api.Op{other}, l, nil, api.ErrForeign)
			runs(t, l, []api.Op{other, enq(6), deq}, l, nil, api.ErrForeign)
			runs(t, l, []api.Op{enq(6), other, deq}, append(slices.Clone(l), 6), []api.Result{done}, api.ErrForeign)
			runs(t, l, []api.Op{enq(6), other, other, enq(7)}, append(slices.Clone(l), 6), []api.Result{done}, api.ErrForeign)
			runs(t, l, []api.Op{enq(6), enq(7), other}, append(slices.Clone(l), 6, 7), []api.Result{done, done}, api.ErrForeign)
		}
		runs(t, of(3, 4), []api.Op{deq, enq(6), other}, of(4, 6), []api.Result{value(3), done}, api.ErrForeign)
		runs(t, of(3), []api.Op{deq, deq, other, deq}, nil, []api.Result{value(3), none}, api.ErrForeign)
	}
}

// TestRunIsStepByStep is P10.2: over all lists of up to five of some operations, from some states.
func TestRunIsStepByStep(t *testing.T) {
	some := []api.Op{deq, enq(0), enq(258), {F: api.Deq, Obj: 7}, read, {F: api.Enq, B: 1}}
	for _, l := range [][]uint16{nil, of(5), of(5, 7)} {
		lists(some, 5, func(ops []api.Op) {
			to, results, e := oneByOne(queue.Of(l), ops)
			runs(t, l, ops, queue.Values(to), results, e)
		})
	}
}

// TestLongRun is P10.2: there are as many results as operations, or as there are before the first one that is refused.
func TestLongRun(t *testing.T) {
	const many = 50000
	ops, want, values := make([]api.Op, 2*many), make([]api.Result, 2*many), make([]uint16, many)
	for i := range many {
		values[i] = uint16(i * 7)
		ops[i], want[i] = enq(values[i]), done
		ops[many+i], want[many+i] = deq, value(values[i])
	}
	runs(t, nil, ops, nil, want, api.OK)
	runs(t, nil, ops[:many], values, want[:many], api.OK)
	for _, at := range []int{0, 1, many / 2, many - 1, many, many + 1, 2*many - 1} {
		own := ops[at]
		ops[at] = api.Op{F: api.Acquire}
		runs(t, nil, ops, values[max(0, at-many):min(at, many)], want[:at], api.ErrForeign)
		ops[at] = own
	}
}

// TestRunLeavesItsList is P10.2: a list that is passed is not changed, nor what is behind it.
func TestRunLeavesItsList(t *testing.T) {
	for _, ops := range [][]api.Op{
		{deq, enq(5), {F: api.Enq, Obj: 7, A: 6}, deq, deq, deq},
		{enq(5), read, enq(6)},
	} {
		behind := append(slices.Clone(ops), enq(99))
		queue.Run(queue.Of(of(3)), behind[:len(ops)])
		if !slices.Equal(behind[:len(ops)], ops) || behind[len(ops)] != enq(99) {
			t.Errorf("Run of %v left %v", ops, behind)
		}
	}
}

// TestResultsAreOwn is P10.2: what Run returned is in memory of its own.
func TestResultsAreOwn(t *testing.T) {
	for _, last := range []api.Op{deq, read} {
		ops := []api.Op{deq, enq(5), enq(6), deq, last}
		s := queue.Of(of(3))
		to, first, _ := queue.Run(s, ops)
		want, left := slices.Clone(first), queue.Values(to)
		_, second, _ := queue.Run(s, ops)
		for i := range first {
			first[i] = value(77)
		}
		_ = append(first[:1], value(66), value(66), value(66), value(66), value(66))
		clear(ops)
		if !slices.Equal(second, want) {
			t.Errorf("a list that was returned changed with another one, or with the operations: %v, and not %v", second, want)
		}
		has(t, to, left...)
		has(t, s, 3)
	}
}
