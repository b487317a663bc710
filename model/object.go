package model

import "umpire/api"

// object is a state as the package of its model has it, whichever that is.
type object interface{ model() uint8 }

// one is an object whose state is an S.
type one[S any] struct {
	of    uint8
	state S
}

func (o one[S]) model() uint8 { return o.of }

// initialOf makes the function that returns the initial object.
func initialOf[S any](model uint8, initial func() S) func() object {
	return func() object { return one[S]{model, initial()} }
}

// stepOf makes the step of an object.
func stepOf[S any](step func(S, uint8, api.Op) (S, api.Result, api.Errno)) func(object, uint8, api.Op) (object, api.Result, api.Errno) {
	return func(o object, client uint8, x api.Op) (object, api.Result, api.Errno) {
		from := o.(one[S])
		to, r, e := step(from.state, client, x)
		return one[S]{from.of, to}, r, e
	}
}

// byAnyone makes a step of a client from one that is the same whoever performs it.
func byAnyone[S any](step func(S, api.Op) (S, api.Result, api.Errno)) func(S, uint8, api.Op) (S, api.Result, api.Errno) {
	return func(s S, _ uint8, x api.Op) (S, api.Result, api.Errno) { return step(s, x) }
}

// stringOf makes the function that returns an object's encoding, or its text.
func stringOf[S any](of func(S) string) func(object) string {
	return func(o object) string { return of(o.(one[S]).state) }
}

// decodeOf makes the function that returns the object with an encoding.
func decodeOf[S any](model uint8, decode func(string) (S, api.Errno)) func(string) (object, api.Errno) {
	return func(t string) (object, api.Errno) {
		s, e := decode(t)
		return one[S]{model, s}, e
	}
}
