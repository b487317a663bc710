package register_test

import (
	"slices"
	"testing"

	"umpire/api"
	"umpire/register"
)

// runs tells whether Run of ops from s leads to that state, with those results and that error.
func runs(t *testing.T, s register.State, ops []api.Op, want register.State, wantResults []api.Result, wantErr api.Errno) {
	t.Helper()
	if to, l, e := register.Run(s, ops); to != want || !slices.Equal(l, wantResults) || e != wantErr {
		t.Errorf("Run of %v from %d: %d, %v, %d, and not %d, %v, %d", ops, s, to, l, e, want, wantResults, wantErr)
	}
}

// oneByOne performs ops by Step, up to the first error.
func oneByOne(s register.State, ops []api.Op) (register.State, []api.Result, api.Errno) {
	var l []api.Result
	for _, op := range ops {
		to, r, e := register.Step(s, op)
		if e != api.OK {
			return s, l, e
		}
		s, l = to, append(l, r)
	}
	return s, l, api.OK
}

// TestRunOfNothing is P9.2: nil and empty lists.
func TestRunOfNothing(t *testing.T) {
	for _, s := range edges() {
		runs(t, s, nil, s, nil, api.OK)
		runs(t, s, []api.Op{}, s, nil, api.OK)
	}
}

// TestRunOfOwn is P9.2: lists of the register's operations, from each of the states.
func TestRunOfOwn(t *testing.T) {
	for _, s := range edges() {
		n := uint16(s)
		runs(t, s, []api.Op{read}, s, []api.Result{value(n)}, api.OK)
		runs(t, s, []api.Op{write(9)}, 9, []api.Result{done}, api.OK)
		runs(t, s, []api.Op{cas(n+1, 9)}, s, []api.Result{no}, api.OK)
		runs(t, s, []api.Op{cas(n, 9), read, cas(9, n), read}, s, []api.Result{yes, value(9), yes, value(n)}, api.OK)
		runs(t, s, []api.Op{read, write(9), write(n), read, cas(9, 8)}, s, []api.Result{value(n), done, done, value(n), no}, api.OK)
	}
}

// TestRunOfForeign is P9.2: the first foreign operation ends it, wherever it is; those behind it, foreign or not, make no difference.
func TestRunOfForeign(t *testing.T) {
	for f := range 256 {
		if isOwn(f) {
			continue
		}
		other := api.Op{F: uint8(f), A: 3, B: 4}
		for _, s := range edges() {
			n := uint16(s)
			runs(t, s, []api.Op{other}, s, nil, api.ErrForeign)
			runs(t, s, []api.Op{other, write(6), read}, s, nil, api.ErrForeign)
			runs(t, s, []api.Op{write(6), other, write(7), read}, 6, []api.Result{done}, api.ErrForeign)
			runs(t, s, []api.Op{cas(n, 6), read, other, other, write(7)}, 6, []api.Result{yes, value(6)}, api.ErrForeign)
			runs(t, s, []api.Op{cas(n+1, 6), write(7), other}, 7, []api.Result{no, done}, api.ErrForeign)
			runs(t, s, []api.Op{read, other, enq(1)}, s, []api.Result{value(n)}, api.ErrForeign)
		}
	}
}

// TestRunIsStepByStep is P9.2: over all lists of up to four of some operations.
func TestRunIsStepByStep(t *testing.T) {
	some := []api.Op{read, write(0), write(1), cas(0, 1), cas(1, 65535), cas(65535, 0), enq(1), {}}
	for _, s := range edges() {
		lists(some, 4, func(ops []api.Op) {
			to, l, e := oneByOne(s, ops)
			runs(t, s, ops, to, l, e)
		})
	}
}

// lists calls do with each list of up to most of these operations.
func lists(some []api.Op, most int, do func([]api.Op)) {
	var longer func(ops []api.Op)
	longer = func(ops []api.Op) {
		do(ops)
		if len(ops) == most {
			return
		}
		for _, op := range some {
			longer(append(slices.Clone(ops), op))
		}
	}
	longer(nil)
}

// TestLongRun is P9.2: there are as many results as operations, or as there are before the first foreign one.
func TestLongRun(t *testing.T) {
	const many = 100000
	ops, want := make([]api.Op, many), make([]api.Result, many)
	for i := range ops {
		ops[i], want[i] = cas(uint16(i), uint16(i+1)), yes
	}
	runs(t, 0, ops, register.State(many&0xffff), want, api.OK)
	for _, at := range []int{0, 1, many / 2, many - 1} {
		own := ops[at]
		ops[at] = api.Op{F: api.Acquire}
		runs(t, 0, ops, register.State(at&0xffff), want[:at], api.ErrForeign)
		ops[at] = own
	}
}

// TestRunLeavesItsList is P9.2: a list that is passed is not changed, nor what is behind it.
func TestRunLeavesItsList(t *testing.T) {
	for _, ops := range [][]api.Op{
		{read, write(5), cas(5, 7), {F: api.CAS, Obj: 9, Key: 8, A: 5, B: 8}, read},
		{write(5), enq(1), read},
	} {
		behind := append(slices.Clone(ops), write(99))
		register.Run(3, behind[:len(ops)])
		if !slices.Equal(behind[:len(ops)], ops) || behind[len(ops)] != write(99) {
			t.Errorf("Run of %v left %v", ops, behind)
		}
	}
}

// TestResultsAreOwn is P9.2: what Run returned is in memory of its own.
func TestResultsAreOwn(t *testing.T) {
	ops := []api.Op{read, write(5), read}
	want := []api.Result{value(3), done, value(5)}
	_, first, _ := register.Run(3, ops)
	_, second, _ := register.Run(3, ops)
	clear(first)
	_ = append(first[:1], yes, yes)
	if !slices.Equal(second, want) {
		t.Errorf("a list that was returned changed with another one: %v", second)
	}
	clear(ops)
	if !slices.Equal(second, want) {
		t.Errorf("a list that was returned changed with the operations: %v", second)
	}
	runs(t, 3, []api.Op{read, write(5), read}, 5, want, api.OK)

	_, part, _ := register.Run(3, []api.Op{read, write(5), enq(1)})
	_, again, _ := register.Run(3, []api.Op{read, write(5), enq(1)})
	clear(part)
	if !slices.Equal(again, want[:2]) {
		t.Errorf("results before an error changed with others: %v", again)
	}
}
