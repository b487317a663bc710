package kvmap

import "umpire/api"

// step performs an operation in a state.
type step func(State, api.Op) (State, api.Result)

// steps stand at the F of their operations.
func steps() [api.Swap + 1]step {
	return [...]step{api.Get: State.get, api.Put: State.put, api.Del: State.del, api.Swap: State.swap}
}

// stepOf returns the step of op; nil, if op is foreign.
func stepOf(op api.Op) step {
	if op.F > api.Swap || op.Key >= api.Keys {
		return nil
	}
	return steps()[op.F]
}

// has tells whether the key is there. No key above 7 is: what a shift brings in from above is 0.
func (s State) has(key uint8) bool { return s.Has>>key&1 == 1 }

func (s State) get(op api.Op) (State, api.Result) {
	if !s.has(op.Key) {
		return s, api.Result{K: api.None}
	}
	return s, api.Result{K: api.Value, V: s.V[op.Key]}
}

func (s State) put(op api.Op) (State, api.Result) {
	s.Has |= 1 << op.Key
	s.V[op.Key] = op.A
	return s, api.Result{K: api.Done}
}

func (s State) del(op api.Op) (State, api.Result) {
	if !s.has(op.Key) {
		return s, api.Result{K: api.No}
	}
	s.Has &^= 1 << op.Key
	s.V[op.Key] = 0
	return s, api.Result{K: api.Yes}
}

func (s State) swap(op api.Op) (State, api.Result) {
	if !s.has(op.Key) || s.V[op.Key] != op.A {
		return s, api.Result{K: api.No}
	}
	s.V[op.Key] = op.B
	return s, api.Result{K: api.Yes}
}
