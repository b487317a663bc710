package lock_test

import (
	"testing"

	"umpire/api"
	"umpire/lock"
)

// The operations that the tests perform, and their results.
var (
	acquire = api.Op{F: api.Acquire}
	release = api.Op{F: api.Release}
	yes     = api.Result{K: api.Yes}
	no      = api.Result{K: api.No}
)

const free lock.State = 0

// held is the state in which that client holds the lock.
func held(client int) lock.State { return lock.State(client + 1) }

// states are all states that there are.
func states() []lock.State {
	l := []lock.State{free}
	for client := range 16 {
		l = append(l, held(client))
	}
	return l
}

// steps tells whether Step of x by the client from s leads to that state, with that result.
func steps(t *testing.T, s lock.State, client int, x api.Op, want lock.State, wantResult api.Result) {
	t.Helper()
	if to, r, e := lock.Step(s, uint8(client), x); to != want || r != wantResult || e != api.OK {
		t.Errorf("Step of %v by %d in %d: %d, %v, %d, and not %d, %v", x, client, s, to, r, e, want, wantResult)
	}
}

// refuses tells whether Step of x by the client from s returns that error, with the state that was passed and the zero result.
func refuses(t *testing.T, s lock.State, client int, x api.Op, want api.Errno) {
	t.Helper()
	if to, r, e := lock.Step(s, uint8(client), x); to != s || r != (api.Result{}) || e != want {
		t.Errorf("Step of %v by %d in %d: %d, %v, %d, and not %d", x, client, s, to, r, e, want)
	}
}

// places calls do with each client, in each state that there is.
func places(do func(s lock.State, client int)) {
	for _, s := range states() {
		for client := range 16 {
			do(s, client)
		}
	}
}

// invalid are the lock's operations with an Obj, a Key, an A or a B that they cannot have.
func invalid() []api.Op {
	var l []api.Op
	for _, f := range []uint8{api.Acquire, api.Release} {
		for n := 1; n < 256; n++ {
			l = append(l, api.Op{F: f, Key: uint8(n)}, api.Op{F: f, A: uint16(n)}, api.Op{F: f, B: uint16(n)})
			if n > 7 {
				l = append(l, api.Op{F: f, Obj: uint8(n)})
			}
		}
		l = append(l, api.Op{F: f, A: 256}, api.Op{F: f, A: 65535}, api.Op{F: f, B: 256}, api.Op{F: f, B: 65535}, api.Op{F: f, Obj: 7, Key: 1, A: 1, B: 1})
	}
	return l
}

// foreign are operations of another model, of each F, with and without what they need; ones whose F is none; and the lock's that are not valid.
func foreign() []api.Op {
	l := invalid()
	for f := range 256 {
		if f != api.Acquire && f != api.Release {
			l = append(l, api.Op{F: uint8(f)}, api.Op{F: uint8(f), Key: 1, A: 5, B: 6}, api.Op{F: uint8(f), Obj: 8})
		}
	}
	return append(l, api.Op{F: api.Write, A: 5}, api.Op{F: api.CAS, A: 5, B: 6}, api.Op{F: api.Enq, Obj: 7, A: 5}, api.Op{F: api.Get, Key: 7}, api.Op{F: api.Put, Key: 1, A: 5})
}

// TestNew is P12.1: the initial state is the zero value, and free.
func TestNew(t *testing.T) {
	var zero lock.State
	if s := lock.New(); s != zero || s != free {
		t.Errorf("New: %d", s)
	}
	for client := range 16 {
		steps(t, lock.New(), client, acquire, held(client), yes)
		steps(t, zero, client, release, lock.New(), no)
	}
}

// TestHolder is P12.1: of each state that there is, and of all numbers above.
func TestHolder(t *testing.T) {
	for n := range 256 {
		want, wantHeld := n-1, true
		if n == 0 || n > 16 {
			want, wantHeld = 0, false
		}
		if client, held := lock.Holder(lock.State(n)); int(client) != want || held != wantHeld {
			t.Errorf("Holder of %d: %d, %t", n, client, held)
		}
	}
}

// TestAcquire is P12.1: by each client in each state, that in which it holds the lock itself among them.
func TestAcquire(t *testing.T) {
	places(func(s lock.State, client int) {
		if s == free {
			steps(t, s, client, acquire, held(client), yes)
		} else {
			steps(t, s, client, acquire, s, no)
		}
	})
}

// TestRelease is P12.1: by each client in each state.
func TestRelease(t *testing.T) {
	places(func(s lock.State, client int) {
		if s == held(client) {
			steps(t, s, client, release, free, yes)
		} else {
			steps(t, s, client, release, s, no)
		}
	})
}

// TestObj is P12.1: it makes no difference where the operation is valid.
func TestObj(t *testing.T) {
	places(func(s lock.State, client int) {
		for _, x := range []api.Op{acquire, release} {
			want, result, _ := lock.Step(s, uint8(client), x)
			for obj := range uint8(8) {
				x.Obj = obj
				steps(t, s, client, x, want, result)
			}
		}
	})
}

// TestForeign is P12.1: what is of another model, of none, or not valid, is refused in every state.
func TestForeign(t *testing.T) {
	for _, x := range foreign() {
		places(func(s lock.State, client int) { refuses(t, s, client, x, api.ErrForeign) })
	}
}

// TestArg is P12.1: a client that there is not, and a state, and both.
func TestArg(t *testing.T) {
	for _, x := range []api.Op{acquire, release, {F: api.Acquire, Obj: 7}, {F: api.Release, Obj: 7}} {
		for client := range 256 {
			for s := range 256 {
				if client > 15 || s > 16 {
					refuses(t, lock.State(s), client, x, api.ErrArg)
				}
			}
		}
	}
}

// TestForeignFirst is P12.1: where both errors would be, it is ErrForeign.
func TestForeignFirst(t *testing.T) {
	for _, x := range foreign() {
		for _, client := range []int{0, 15, 16, 17, 255} {
			for _, s := range []lock.State{free, 16, 17, 18, 255} {
				refuses(t, s, client, x, api.ErrForeign)
			}
		}
	}
}

// TestIdle is P12.3: of each F that there is, and of ones that are none.
func TestIdle(t *testing.T) {
	for f := range 256 {
		if lock.Idle(uint8(f)) {
			t.Errorf("Idle of %d: true", f)
		}
	}
}

// TestExamples are the chapter's examples.
func TestExamples(t *testing.T) {
	runs(t, free, []lock.Call{by(0, acquire), by(1, acquire), by(1, release), by(0, release), by(1, acquire)}, held(1), []api.Result{yes, no, no, yes, yes}, api.OK)
	steps(t, held(0), 0, acquire, held(0), no)
	steps(t, free, 0, release, free, no)
	encodes(t, free, "\x00")
	encodes(t, held(1), "\x02")
	decodes(t, "\x10", held(15), api.OK)
	decodes(t, "\x11", free, api.ErrForm)
	decodes(t, "", free, api.ErrForm)
	refuses(t, free, 16, acquire, api.ErrArg)
	refuses(t, 17, 0, acquire, api.ErrArg)
	refuses(t, free, 0, api.Op{F: api.Read}, api.ErrForeign)
	runs(t, free, []lock.Call{by(0, acquire), by(0, api.Op{F: api.Read})}, held(0), []api.Result{yes}, api.ErrForeign)
}
