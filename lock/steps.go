package lock

import "umpire/api"

// heldBy returns the state in which the client holds the lock. Its number is one more, since 0 is free.
func heldBy(client uint8) State { return State(client) + 1 }

// exists tells whether s is free, or held by a client that there is.
func (s State) exists() bool { return s <= heldBy(api.Clients-1) }

// turn is a client before a lock in a state.
type turn struct {
	client uint8
	at     State
}

// step returns what the client does by an operation with that F, which must be one of the lock's.
func (t turn) step(f uint8) func() (State, api.Result) {
	switch {
	case f == api.Acquire:
		if t.at == New() {
			return t.take
		}
		// Even the client that holds the lock does not get it again: its Acquire ends as a Release by another one does.
		fallthrough
	case t.at != heldBy(t.client):
		return t.leave
	}
	return t.free
}

func (t turn) take() (State, api.Result) { return heldBy(t.client), api.Result{K: api.Yes} }

func (t turn) free() (State, api.Result) { return New(), api.Result{K: api.Yes} }

func (t turn) leave() (State, api.Result) { return t.at, api.Result{K: api.No} }
