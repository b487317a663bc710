package queue

import (
	"umpire/api"
	"umpire/op"
)

// step performs an operation in a state, which must be cut or not be anyone else's.
type step func(State, api.Op) (State, api.Result)

// steps stand at the F of their operations.
func steps() [api.Deq + 1]step {
	return [...]step{api.Enq: State.enq, api.Deq: State.deq}
}

func (s State) perform(x api.Op) (State, api.Result, api.Errno) {
	if e := op.Check(api.Queue, x); e != api.OK {
		return s, api.Result{}, e
	}
	to, r := steps()[x.F](s, x)
	return to, r, api.OK
}

// cut is s without the room behind its list, which other states may share: what is appended goes into memory of its own.
func (s State) cut() State {
	n := len(s.values)
	return State{s.values[:n:n]}
}

func (s State) enq(x api.Op) (State, api.Result) {
	return State{append(s.values, x.A)}, api.Result{K: api.Done}
}

func (s State) deq(api.Op) (State, api.Result) {
	switch len(s.values) {
	case 0:
		return s, api.Result{K: api.None}
	case 1:
		// An empty piece would keep all of the memory that it was cut from.
		return New(), api.Result{K: api.Value, V: s.values[0]}
	}
	return State{s.values[1:]}, api.Result{K: api.Value, V: s.values[0]}
}
