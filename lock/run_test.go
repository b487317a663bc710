package lock_test

import (
	"slices"
	"testing"

	"umpire/api"
	"umpire/lock"
)

// by is the call of x by that client.
func by(client int, x api.Op) lock.Call { return lock.Call{Client: uint8(client), Op: x} }

// runs tells whether Run of l from s leads to that state, with those results and that error, and leaves the list that was passed.
func runs(t *testing.T, s lock.State, l []lock.Call, want lock.State, wantResults []api.Result, wantErr api.Errno) {
	t.Helper()
	was := slices.Clone(l)
	if to, results, e := lock.Run(s, l); to != want || !slices.Equal(results, wantResults) || e != wantErr {
		t.Errorf("Run of %v from %d: %d, %v, %d, and not %d, %v, %d", was, s, to, results, e, want, wantResults, wantErr)
	}
	if !slices.Equal(l, was) {
		t.Errorf("Run of %v from %d left %v", was, s, l)
	}
}

// wrong are calls that have an error in each state, and their errors.
func wrong() map[lock.Call]api.Errno {
	m := map[lock.Call]api.Errno{}
	for _, x := range foreign() {
		for _, client := range []int{0, 3, 15, 16, 255} {
			m[by(client, x)] = api.ErrForeign
		}
	}
	for client := 16; client < 256; client++ {
		m[by(client, acquire)], m[by(client, release)] = api.ErrArg, api.ErrArg
	}
	return m
}

// each calls do with each list of up to most calls that are some of these.
func each(some []lock.Call, most int, do func([]lock.Call)) {
	for n := range most + 1 {
		at := make([]int, n)
		for more := true; more; {
			l := make([]lock.Call, n)
			for i := range l {
				l[i] = some[at[i]]
			}
			do(l)
			more = false
			for i := 0; i < n && !more; i++ {
				at[i] = (at[i] + 1) % len(some)
				more = at[i] != 0
			}
		}
	}
}

// TestRunOfNothing is P12.2: nil and empty lists, from all states, and from what is none.
func TestRunOfNothing(t *testing.T) {
	for s := range 256 {
		runs(t, lock.State(s), nil, lock.State(s), nil, api.OK)
		runs(t, lock.State(s), []lock.Call{}, lock.State(s), nil, api.OK)
	}
}

// TestRunOfOwn is P12.2: lists of calls without an error.
func TestRunOfOwn(t *testing.T) {
	for a := range 16 {
		b := (a + 5) % 16
		runs(t, free, []lock.Call{by(a, acquire)}, held(a), []api.Result{yes}, api.OK)
		runs(t, held(b), []lock.Call{by(a, acquire)}, held(b), []api.Result{no}, api.OK)
		runs(t, free, []lock.Call{by(a, release), by(a, acquire), by(a, acquire), by(b, acquire)}, held(a), []api.Result{no, yes, no, no}, api.OK)
		runs(t, held(a), []lock.Call{by(b, release), by(a, release), by(a, release)}, free, []api.Result{no, yes, no}, api.OK)
		runs(t, held(a), []lock.Call{by(a, release), by(b, acquire), by(a, release), by(a, acquire), by(b, release), by(a, acquire)}, held(a), []api.Result{yes, yes, no, no, yes, yes}, api.OK)
	}
	runs(t, free, []lock.Call{by(2, api.Op{F: api.Acquire, Obj: 7}), by(3, api.Op{F: api.Acquire, Obj: 1}), by(2, release)}, free, []api.Result{yes, no, yes}, api.OK)
}

// TestRunOfWrong is P12.2: the first call that has an error ends it, wherever it is; those behind it make no difference.
func TestRunOfWrong(t *testing.T) {
	for call, e := range wrong() {
		for _, s := range states() {
			runs(t, s, []lock.Call{call}, s, nil, e)
			runs(t, s, []lock.Call{call, by(3, acquire), by(3, release)}, s, nil, e)
		}
		runs(t, free, []lock.Call{by(3, acquire), call, by(3, release)}, held(3), []api.Result{yes}, e)
		runs(t, held(3), []lock.Call{by(3, release), call, by(3, acquire)}, free, []api.Result{yes}, e)
		runs(t, held(4), []lock.Call{by(3, acquire), call, call, by(4, release)}, held(4), []api.Result{no}, e)
		runs(t, free, []lock.Call{by(3, acquire), by(4, acquire), call}, held(3), []api.Result{yes, no}, e)
		runs(t, free, []lock.Call{by(3, acquire), by(3, release), by(4, acquire), call}, held(4), []api.Result{yes, yes, yes}, e)
	}
}

// TestRunOfTwoWrong is P12.2: of several errors, it is that of the call that comes first.
func TestRunOfTwoWrong(t *testing.T) {
	read, nobody := by(3, api.Op{F: api.Read}), by(16, acquire)
	runs(t, free, []lock.Call{by(3, acquire), read, nobody}, held(3), []api.Result{yes}, api.ErrForeign)
	runs(t, free, []lock.Call{by(3, acquire), nobody, read}, held(3), []api.Result{yes}, api.ErrArg)
}

// TestRunFromNone is P12.2: from a state that there is not, the first call has an error, and which one it is hangs on that call.
func TestRunFromNone(t *testing.T) {
	for s := lock.State(17); s != 0; s++ {
		runs(t, s, []lock.Call{by(0, acquire), by(0, release)}, s, nil, api.ErrArg)
		runs(t, s, []lock.Call{by(16, release), by(0, acquire)}, s, nil, api.ErrArg)
		runs(t, s, []lock.Call{by(0, api.Op{F: api.Read}), by(0, acquire)}, s, nil, api.ErrForeign)
	}
}

// TestRunIsStepByStep is P12.2: over all lists of up to four of some calls, from some states.
func TestRunIsStepByStep(t *testing.T) {
	some := []lock.Call{by(0, acquire), by(0, release), by(1, acquire), by(1, release), by(15, acquire), by(15, release), by(16, acquire), by(0, api.Op{F: api.Get}), by(1, api.Op{F: api.Release, A: 1})}
	for _, s := range []lock.State{free, held(0), held(1), held(15), 17, 255} {
		each(some, 4, func(l []lock.Call) {
			want, wantErr := s, api.OK
			var results []api.Result
			for _, c := range l {
				to, r, e := lock.Step(want, c.Client, c.Op)
				if e != api.OK {
					wantErr = e
					break
				}
				want, results = to, append(results, r)
			}
			runs(t, s, l, want, results, wantErr)
		})
	}
}

// TestLongRun is P12.2: there are as many results as calls, or as there are before the first one that has an error.
func TestLongRun(t *testing.T) {
	const many = 60000
	calls, want, after := make([]lock.Call, many), make([]api.Result, many), make([]lock.State, many)
	for i := range many {
		client, other := i/3%16, (i/3+1)%16
		switch i % 3 {
		case 0:
			calls[i], want[i], after[i] = by(client, acquire), yes, held(client)
		case 1:
			calls[i], want[i], after[i] = by(other, acquire), no, held(client)
		case 2:
			calls[i], want[i], after[i] = by(client, release), yes, free
		}
	}
	runs(t, free, calls, after[many-1], want, api.OK)
	for _, at := range []int{1, 2, many / 2, many - 1} {
		for _, bad := range []lock.Call{by(0, api.Op{F: api.Swap}), by(16, acquire)} {
			own := calls[at]
			calls[at] = bad
			runs(t, free, calls, after[at-1], want[:at], wrong()[bad])
			calls[at] = own
		}
	}
}

// TestRunLeavesWhatIsBehind is P12.2: what is behind a list that is passed is not changed.
func TestRunLeavesWhatIsBehind(t *testing.T) {
	for _, last := range []lock.Call{by(0, release), by(0, api.Op{F: api.Read}), by(16, release)} {
		behind := []lock.Call{by(0, acquire), by(1, api.Op{F: api.Acquire, Obj: 7}), last, by(9, acquire), by(8, release)}
		want := slices.Clone(behind)
		lock.Run(free, behind[:3])
		if !slices.Equal(behind, want) {
			t.Errorf("Run of %v left %v", want[:3], behind)
		}
	}
}

// TestResultsAreOwn is P12.2: what Run returned is in memory of its own.
func TestResultsAreOwn(t *testing.T) {
	for _, last := range []lock.Call{by(0, release), by(0, api.Op{F: api.Read})} {
		calls := []lock.Call{by(0, acquire), by(1, acquire), by(0, release), by(1, release), by(1, acquire), last}
		_, first, _ := lock.Run(free, calls)
		_, second, _ := lock.Run(free, calls)
		want := slices.Clone(first)
		clear(first)
		_ = append(first[:1], yes, yes, yes, yes, yes)
		clear(calls)
		if !slices.Equal(second, want) {
			t.Errorf("a list that was returned changed with another one, or with the calls: %v, and not %v", second, want)
		}
	}
}
