package kvmap_test

import (
	"slices"
	"testing"

	"umpire/api"
	"umpire/kvmap"
)

// runs tells whether Run of ops from s leads to that state, with those results and that error, and leaves the state and the list that were passed.
func runs(t *testing.T, s kvmap.State, ops []api.Op, want kvmap.State, wantResults []api.Result, wantErr api.Errno) {
	t.Helper()
	was, list := s, slices.Clone(ops)
	if to, l, e := kvmap.Run(s, ops); to != want || !slices.Equal(l, wantResults) || e != wantErr {
		t.Errorf("Run of %v from %v: %v, %v, %d, and not %v, %v, %d", list, was, to, l, e, want, wantResults, wantErr)
	}
	if s != was || !slices.Equal(ops, list) {
		t.Errorf("Run of %v from %v left %v and %v", list, was, ops, s)
	}
}

// numbered is the nth of all lists of some operations, of which the shorter ones come first.
func numbered(some []api.Op, n int) []api.Op {
	var ops []api.Op
	for ; n > 0; n = (n - 1) / len(some) {
		ops = append(ops, some[(n-1)%len(some)])
	}
	return ops
}

// foreign are operations that are not the map's: of other models, of none, and at keys that there are not.
func foreign() []api.Op {
	l := []api.Op{get(8), put(8, 5), del(8), swap(8, 5, 6), get(255), put(255, 5), del(255), swap(255, 0, 0)}
	for f := range 256 {
		if !isOwn(f) {
			l = append(l, api.Op{F: uint8(f), Key: 2, A: 5, B: 6})
		}
	}
	return l
}

// TestRunOfNothing is P11.2: nil and empty lists.
func TestRunOfNothing(t *testing.T) {
	for _, s := range append(examples(), broken()...) {
		runs(t, s, nil, s, nil, api.OK)
		runs(t, s, []api.Op{}, s, nil, api.OK)
	}
}

// TestRunOfOwn is P11.2: lists of the map's operations.
func TestRunOfOwn(t *testing.T) {
	places(func(s kvmap.State, key uint8) {
		s = without(s, key)
		for _, v := range edges() {
			runs(t, s, []api.Op{put(key, v)}, with(s, key, v), []api.Result{done}, api.OK)
			runs(t, s, []api.Op{get(key), put(key, v), get(key), del(key), get(key)}, s, []api.Result{none, done, value(v), yes, none}, api.OK)
			runs(t, s, []api.Op{del(key), swap(key, 0, v), put(key, v), swap(key, v, v+1)}, with(s, key, v+1), []api.Result{no, no, done, yes}, api.OK)
			runs(t, with(s, key, v), []api.Op{swap(key, v, 9), swap(key, 9, v), swap(key, ^v, 9), del(key), del(key)}, s, []api.Result{yes, yes, no, yes, no}, api.OK)
		}
	})
	runs(t, kvmap.State{Has: 1, V: [8]uint16{5}}, []api.Op{put(7, 5), del(0), put(3, 256), get(7), swap(7, 5, 0)}, kvmap.State{Has: 136, V: [8]uint16{3: 256}}, []api.Result{done, yes, done, value(5), yes}, api.OK)
}

// TestRunOfForeign is P11.2: the first operation that is foreign ends it, wherever it is; those behind it, foreign or not, make no difference.
func TestRunOfForeign(t *testing.T) {
	for _, other := range foreign() {
		for _, s := range examples() {
			runs(t, s, []api.Op{other}, s, nil, api.ErrForeign)
			runs(t, s, []api.Op{other, put(3, 6), del(3)}, s, nil, api.ErrForeign)
			runs(t, s, []api.Op{put(3, 6), other, del(3)}, with(s, 3, 6), []api.Result{done}, api.ErrForeign)
			runs(t, s, []api.Op{put(3, 6), other, other, put(3, 7)}, with(s, 3, 6), []api.Result{done}, api.ErrForeign)
			runs(t, s, []api.Op{put(3, 6), get(3), put(0, 7), other}, with(with(s, 3, 6), 0, 7), []api.Result{done, value(6), done}, api.ErrForeign)
			runs(t, with(s, 5, 8), []api.Op{swap(5, 8, 9), del(5), other}, without(s, 5), []api.Result{yes, yes}, api.ErrForeign)
		}
	}
}

// TestRunIsStepByStep is P11.2: of each list of one to four operations, Run is what Run of the list without its last operation is, and then a Step of that one.
func TestRunIsStepByStep(t *testing.T) {
	some := []api.Op{get(0), put(0, 5), del(0), swap(0, 5, 6), put(7, 256), swap(7, 256, 5), get(8), {F: api.Read}}
	for _, s := range []kvmap.State{{}, {Has: 129, V: [8]uint16{0: 5}}, {Has: 255, V: [8]uint16{6, 1, 2, 3, 4, 5, 6, 256}}} {
		for n := range 8 + 64 + 512 + 4096 {
			ops := numbered(some, n+1)
			last := len(ops) - 1
			want, results, err := kvmap.Run(s, ops[:last])
			if err == api.OK {
				to, r, e := kvmap.Step(want, ops[last])
				if e == api.OK {
					results = append(results, r)
				}
				want, err = to, e
			}
			runs(t, s, ops, want, results, err)
		}
	}
}

// TestLongRun is P11.2: there are as many results as operations, or as there are before the first one that is foreign.
func TestLongRun(t *testing.T) {
	const many = 40000
	ops, want, states := make([]api.Op, many), make([]api.Result, many), make([]kvmap.State, many+1)
	for i := range many {
		key, v := uint8(i/2%8), uint16(i/16)
		if i%2 == 0 {
			ops[i], want[i], states[i+1] = put(key, v), done, with(states[i], key, v)
		} else {
			ops[i], want[i], states[i+1] = get(key), value(v), states[i]
		}
	}
	runs(t, kvmap.New(), ops, states[many], want, api.OK)
	for _, at := range []int{0, 1, many / 2, many - 2, many - 1} {
		own := ops[at]
		ops[at] = api.Op{F: api.Acquire}
		runs(t, kvmap.New(), ops, states[at], want[:at], api.ErrForeign)
		ops[at] = own
	}
}

// TestRunLeavesItsList is P11.2: a list that is passed is not changed, nor what is behind it.
func TestRunLeavesItsList(t *testing.T) {
	for _, ops := range [][]api.Op{
		{put(1, 5), {F: api.Get, Obj: 7, Key: 1, A: 6}, swap(1, 5, 7), del(1), del(1)},
		{put(1, 5), {F: api.Enq, A: 5}, put(1, 6)},
	} {
		behind := append(slices.Clone(ops), put(2, 99))
		want := slices.Clone(behind)
		kvmap.Run(kvmap.State{Has: 4}, behind[:len(ops)])
		if !slices.Equal(behind, want) {
			t.Errorf("Run of %v left %v", want[:len(ops)], behind)
		}
	}
}

// TestResultsAreOwn is P11.2: what Run returned is in memory of its own.
func TestResultsAreOwn(t *testing.T) {
	for _, last := range []api.Op{get(1), get(8)} {
		ops := []api.Op{get(1), put(1, 5), swap(1, 5, 6), get(1), del(1), last}
		_, first, _ := kvmap.Run(kvmap.New(), ops)
		want := slices.Clone(first)
		_, second, _ := kvmap.Run(kvmap.New(), ops)
		for i := range first {
			first[i] = value(77)
		}
		_ = append(first[:1], value(66), value(66), value(66), value(66), value(66))
		clear(ops)
		if !slices.Equal(second, want) {
			t.Errorf("a list that was returned changed with another one, or with the operations: %v, and not %v", second, want)
		}
	}
}
