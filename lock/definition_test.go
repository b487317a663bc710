package lock_test

import (
	"slices"
	"testing"

	"umpire/api"
	"umpire/lock"
)

// past is a second working-out of P12.1: it has no state, but keeps what was called and what the results were, and looks back.
type past struct {
	first   lock.State
	calls   []lock.Call
	results []api.Result
}

// state is what the last call with the result Yes led to; the first state, if there is none.
func (p *past) state() lock.State {
	for i, c := range slices.Backward(p.calls) {
		if p.results[i] == yes && c.Op.F == api.Acquire {
			return held(int(c.Client))
		}
		if p.results[i] == yes {
			return free
		}
	}
	return p.first
}

// do returns what the result of c must be.
func (p *past) do(c lock.Call) api.Result {
	needs, r := free, no
	if c.Op.F == api.Release {
		needs = held(int(c.Client))
	}
	if p.state() == needs {
		r = yes
	}
	p.calls, p.results = append(p.calls, c), append(p.results, r)
	return r
}

// follows tells whether Step and Run perform l as the definitions say, and have the properties.
func follows(t *testing.T, first lock.State, l []lock.Call) {
	t.Helper()
	p, s := &past{first: first}, first
	for i, c := range l {
		r := p.do(c)
		to, got, e := lock.Step(s, c.Client, c.Op)
		if got != r || e != api.OK || to != p.state() {
			t.Fatalf("Step of %v in %d, behind %v from %d: %d, %v, %d, and not %d, %v", c, s, l[:i], first, to, got, e, p.state(), r)
		}
		s = to
	}
	runs(t, first, l, p.state(), p.results, api.OK)
	alternates(t, first, l)
	keeps(t, first, l)
}

// alternates tells whether, between two Acquires with the result Yes, there is a Release with the result Yes by the client of the first of them: P12.4 as it is written.
func alternates(t *testing.T, first lock.State, l []lock.Call) {
	t.Helper()
	_, results, _ := lock.Run(first, l)
	holders := []uint8{}
	if client, held := lock.Holder(first); held {
		holders = append(holders, client)
	}
	for i, c := range l {
		switch {
		case results[i] != yes:
		case c.Op.F == api.Acquire:
			holders = append(holders, c.Client)
		default:
			holders = slices.DeleteFunc(holders, func(client uint8) bool { return client == c.Client })
		}
		if len(holders) > 1 {
			t.Fatalf("%v hold the lock behind %v from %d, with the results %v", holders, l[:i+1], first, results)
		}
	}
}

// keeps tells whether each call leaves the state if its result is No, and otherwise leads from free to held, or back: P12.5.
func keeps(t *testing.T, s lock.State, l []lock.Call) {
	t.Helper()
	for _, c := range l {
		to, r, _ := lock.Step(s, c.Client, c.Op)
		client, was := lock.Holder(s)
		after, is := lock.Holder(to)
		if r != yes && r != no || (r == yes) != (to != s) || (r == yes) != (is != was) || r == no && after != client {
			t.Fatalf("Step of %v in %d: %d, %v", c, s, to, r)
		}
		s = to
	}
}

// TestShortSequences is P12.4 and P12.5: over all lists of up to five calls by a few clients.
func TestShortSequences(t *testing.T) {
	some := []lock.Call{by(0, acquire), by(0, release), by(1, acquire), by(1, release), by(15, acquire), by(15, release)}
	for _, first := range []lock.State{free, held(0), held(7), held(15)} {
		each(some, 5, func(l []lock.Call) { follows(t, first, l) })
	}
}

// TestLongSequences is P12.4 and P12.5: over many lists made by a rule, by one client, by some and by all.
func TestLongSequences(t *testing.T) {
	seed := uint32(1)
	next := func(n int) int {
		seed = seed*1664525 + 1013904223
		return int(seed>>8) % n
	}
	for _, clients := range []int{1, 2, 3, 8, 16} {
		for range 40 {
			l, lowest := make([]lock.Call, 150), next(17-clients)
			for i := range l {
				l[i] = by(lowest+next(clients), api.Op{F: []uint8{api.Acquire, api.Release}[next(2)], Obj: uint8(next(8))})
			}
			follows(t, lock.New(), l)
			follows(t, lock.State(next(17)), l)
		}
	}
}

// TestEachStep is P12.5: an operation with the result No changes nothing, and one with the result Yes changes the state, which goes on to be one that there is.
func TestEachStep(t *testing.T) {
	places(func(s lock.State, client int) {
		for _, x := range []api.Op{acquire, release} {
			keeps(t, s, []lock.Call{by(client, x)})
			if to, _, _ := lock.Step(s, uint8(client), x); to > 16 {
				t.Errorf("Step of %v by %d in %d: %d", x, client, s, to)
			}
		}
	})
}

// FuzzStep is P12.1, P12.2 and P12.5 of all arguments: no call panics, and each has the error that it must have.
func FuzzStep(f *testing.F) {
	for _, x := range append(foreign(), acquire, release) {
		f.Add(uint8(0), uint8(15), x.F, x.Obj, x.Key, x.A, x.B)
	}
	for _, n := range []uint8{1, 15, 16, 17, 255} {
		f.Add(n, uint8(0), uint8(api.Acquire), uint8(0), uint8(0), uint16(0), uint16(0))
		f.Add(uint8(1), n, uint8(api.Release), uint8(7), uint8(0), uint16(0), uint16(0))
	}
	f.Fuzz(func(t *testing.T, s, client, f, obj, key uint8, a, b uint16) {
		x, at := api.Op{F: f, Obj: obj, Key: key, A: a, B: b}, lock.State(s)
		c, want := by(int(client), x), api.OK
		switch {
		case f != api.Acquire && f != api.Release, obj > 7, key != 0, a != 0, b != 0:
			want = api.ErrForeign
		case client > 15, s > 16:
			want = api.ErrArg
		}
		if want == api.OK {
			follows(t, at, []lock.Call{c, c})
			return
		}
		refuses(t, at, int(client), x, want)
		runs(t, at, []lock.Call{c, by(0, acquire)}, at, nil, want)
	})
}
