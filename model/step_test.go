package model_test

import (
	"slices"
	"testing"

	"umpire/api"
	"umpire/model"
)

// steps tells whether Step and Fits of x by the client from s have that result, and leave s; it returns the state after them.
func steps(t *testing.T, s model.State, client uint8, x api.Op, want api.Result) model.State {
	t.Helper()
	text, encoding := s.Text(), s.Encode()
	to, r, e := s.Step(client, x)
	if r != want || e != api.OK {
		t.Errorf("Step of %v by %d in %s: %v, %d, and not %v", x, client, text, r, e, want)
	}
	fit, ok := s.Fits(client, x, want)
	if !ok || !model.Same(fit, to) {
		t.Errorf("Fits of %v by %d, %v, in %s: %s, %t, and not %s", x, client, want, text, fit.Text(), ok, to.Text())
	}
	if s.Text() != text || s.Encode() != encoding {
		t.Errorf("Step of %v by %d in %s left %s", x, client, text, s.Text())
	}
	return to
}

// refuses tells whether Step of x by the client from s returns that error, with the state that was passed and the zero result, and whether no result fits.
func refuses(t *testing.T, s model.State, client uint8, x api.Op, want api.Errno) {
	t.Helper()
	if to, r, e := s.Step(client, x); !model.Same(to, s) || r != (api.Result{}) || e != want {
		t.Errorf("Step of %v by %d in %q: %q, %v, %d, and not %d", x, client, s.Text(), to.Text(), r, e, want)
	}
	for _, r := range []api.Result{done, none, yes, no, value(0), value(5), {K: 5}} {
		if to, ok := s.Fits(client, x, r); ok || !model.Same(to, s) {
			t.Errorf("Fits of %v by %d, %v, in %q: %q, %t", x, client, r, s.Text(), to.Text(), ok)
		}
	}
}

// foreign are operations that states of the model refuse: those of each other model, of none, and its own with what they cannot have.
func foreign(of int) []api.Op {
	var l []api.Op
	for other, ops := range operations() {
		if other != of {
			l = append(l, ops...)
			continue
		}
		for _, x := range ops {
			l = append(l, with(x, 8, x.Key, x.A, x.B), with(x, 255, x.Key, x.A, x.B), with(x, x.Obj, 8, x.A, x.B))
		}
	}
	for _, f := range []uint8{0, 12, 13, 128, 255} {
		l = append(l, api.Op{F: f}, api.Op{F: f, Key: 1, A: 5, B: 6})
	}
	unneeded := [4][]api.Op{
		{with(read, 0, 1, 0, 0), with(read, 0, 0, 1, 0), with(read, 0, 0, 0, 1), with(write(5), 0, 1, 5, 0), with(write(5), 0, 0, 5, 1), with(cas(0, 5), 0, 7, 0, 5)},
		{with(deq, 0, 1, 0, 0), with(deq, 0, 0, 1, 0), with(deq, 0, 0, 0, 256), with(enq(5), 0, 1, 5, 0), with(enq(5), 0, 0, 5, 1)},
		{with(get(3), 0, 3, 1, 0), with(get(3), 0, 3, 0, 1), with(put(3, 5), 0, 3, 5, 1), with(del(3), 0, 3, 1, 0), with(del(3), 0, 3, 0, 1)},
		{with(acquire, 0, 1, 0, 0), with(acquire, 0, 0, 1, 0), with(acquire, 0, 0, 0, 1), with(release, 0, 1, 0, 0), with(release, 0, 0, 1, 0), with(release, 0, 0, 0, 1)},
	}
	return append(l, unneeded[of]...)
}

// with is x on that object, with that key and those numbers.
func with(x api.Op, obj, key uint8, a, b uint16) api.Op {
	return api.Op{F: x.F, Obj: obj, Key: key, A: a, B: b}
}

// TestStep is P13.2: each operation, in the states in which its result differs.
func TestStep(t *testing.T) {
	r := newOf(t, api.Register)
	steps(t, r, 0, read, value(0))
	r = steps(t, r, 0, write(5), done)
	steps(t, r, 1, read, value(5))
	is(t, steps(t, r, 2, cas(4, 8), no), api.Register, "5", "\x00\x05")
	is(t, steps(t, r, 3, cas(5, 258), yes), api.Register, "258", "\x01\x02")
	is(t, steps(t, r, 15, write(65535), done), api.Register, "65535", "\xff\xff")

	q := newOf(t, api.Queue)
	is(t, steps(t, q, 0, deq, none), api.Queue, "[]", "")
	q = steps(t, q, 15, enq(258), done)
	q = steps(t, q, 7, enq(0), done)
	is(t, q, api.Queue, "[258 0]", "\x01\x02\x00\x00")
	q = steps(t, q, 0, deq, value(258))
	is(t, q, api.Queue, "[0]", "\x00\x00")
	is(t, steps(t, q, 1, deq, value(0)), api.Queue, "[]", "")

	m := newOf(t, api.Map)
	steps(t, m, 0, get(7), none)
	steps(t, m, 0, del(7), no)
	steps(t, m, 0, swap(7, 0, 5), no)
	m = steps(t, m, 0, put(7, 258), done)
	m = steps(t, m, 15, put(0, 0), done)
	is(t, m, api.Map, "{0:0 7:258}", "\x81\x00\x00\x01\x02")
	steps(t, m, 0, get(7), value(258))
	steps(t, m, 0, get(0), value(0))
	is(t, steps(t, m, 0, swap(7, 257, 1), no), api.Map, "{0:0 7:258}", "\x81\x00\x00\x01\x02")
	is(t, steps(t, m, 0, swap(7, 258, 1), yes), api.Map, "{0:0 7:1}", "\x81\x00\x00\x00\x01")
	is(t, steps(t, m, 0, del(7), yes), api.Map, "{0:0}", "\x01\x00\x00")

	l := newOf(t, api.Lock)
	is(t, steps(t, l, 9, release, no), api.Lock, "free", "\x00")
	l = steps(t, l, 15, acquire, yes)
	is(t, l, api.Lock, "held by 15", "\x10")
	is(t, steps(t, l, 15, acquire, no), api.Lock, "held by 15", "\x10")
	is(t, steps(t, l, 0, acquire, no), api.Lock, "held by 15", "\x10")
	is(t, steps(t, l, 0, release, no), api.Lock, "held by 15", "\x10")
	is(t, steps(t, l, 15, release, yes), api.Lock, "free", "\x00")
}

// TestObj is P13.2: which object it is makes no difference, as long as there is one of that number.
func TestObj(t *testing.T) {
	for of, states := range some(t) {
		for _, s := range states {
			for _, x := range operations()[of] {
				to, r, _ := s.Step(3, x)
				for obj := range uint8(8) {
					if got := steps(t, s, 3, with(x, obj, x.Key, x.A, x.B), r); !model.Same(got, to) {
						t.Errorf("Step of %v on %d in %s: %s, and not %s", x, obj, s.Text(), got.Text(), to.Text())
					}
				}
			}
		}
	}
}

// TestArg is P13.2: a client that there is not.
func TestArg(t *testing.T) {
	for of, states := range some(t) {
		for _, s := range states[:3] {
			for client := 16; client < 256; client++ {
				refuses(t, s, uint8(client), operations()[of][0], api.ErrArg)
			}
			for _, x := range operations()[of] {
				refuses(t, s, 16, x, api.ErrArg)
				refuses(t, s, 255, x, api.ErrArg)
			}
		}
	}
}

// TestForeign is P13.2: an operation of each other model, of none, and one that is not valid.
func TestForeign(t *testing.T) {
	for of, states := range some(t) {
		for _, s := range states {
			for _, x := range foreign(of) {
				refuses(t, s, 0, x, api.ErrForeign)
				refuses(t, s, 15, x, api.ErrForeign)
			}
		}
	}
}

// TestFirstError is P13.2: of several errors it is ErrNil, and otherwise ErrArg.
func TestFirstError(t *testing.T) {
	var zero model.State
	for of, states := range some(t) {
		for _, x := range foreign(of) {
			for _, client := range []uint8{16, 17, 255} {
				refuses(t, states[0], client, x, api.ErrArg)
				refuses(t, states[1], client, x, api.ErrArg)
				refuses(t, zero, client, x, api.ErrNil)
			}
			refuses(t, zero, 0, x, api.ErrNil)
		}
		for _, x := range operations()[of] {
			refuses(t, zero, 16, x, api.ErrNil)
			refuses(t, zero, 255, x, api.ErrNil)
		}
	}
}

// TestFits is P13.2: with the result, with another K, and with another V, also where that leaves no valid result.
func TestFits(t *testing.T) {
	for of, states := range some(t) {
		for _, s := range states {
			for _, x := range operations()[of] {
				_, r, _ := s.Step(2, x)
				for k := range uint8(7) {
					fits(t, s, 2, x, api.Result{K: k, V: r.V}, k == r.K)
				}
				for _, v := range []uint16{r.V + 1, r.V - 1, r.V ^ 256, ^r.V} {
					fits(t, s, 2, x, api.Result{K: r.K, V: v}, false)
				}
				fits(t, s, 2, x, api.Result{K: 255, V: r.V}, false)
			}
		}
	}
}

// fits tells whether Fits returns the state after the step, if the result is to fit, and otherwise s.
func fits(t *testing.T, s model.State, client uint8, x api.Op, r api.Result, want bool) {
	t.Helper()
	wantTo := s
	if want {
		wantTo, _, _ = s.Step(client, x)
	}
	if to, ok := s.Fits(client, x, r); ok != want || !model.Same(to, wantTo) {
		t.Errorf("Fits of %v by %d, %v, in %s: %s, %t, and not %s, %t", x, client, r, s.Text(), to.Text(), ok, wantTo.Text(), want)
	}
}

// TestIdleLeaves is P13.4 and P13.5: an idle operation leaves each state unchanged, whatever its result is; of the others, each F has one that changes a state.
func TestIdleLeaves(t *testing.T) {
	for of, states := range some(t) {
		changes := map[uint8]bool{}
		for _, s := range states {
			for _, x := range operations()[of] {
				to, _, _ := s.Step(3, x)
				changes[x.F] = changes[x.F] || !model.Same(s, to) || s.Text() != to.Text()
			}
		}
		for f, changed := range changes {
			if idle := model.Idle(uint8(of), f); idle == changed {
				t.Errorf("Idle of %d and %d: %t, and that a state is changed: %t", of, f, idle, changed)
			}
		}
	}
}

// TestTwoEnqs is P13.5: two different ones, performed from one state, one after the other, at each length, where a list may have room behind it.
func TestTwoEnqs(t *testing.T) {
	stepped := newOf(t, api.Queue)
	for n := range uint16(100) {
		decoded, _ := model.Decode(api.Queue, stepped.Encode())
		shorter := after(t, stepped, calls(0, enq(999), deq)...)
		for _, s := range []model.State{stepped, decoded, shorter} {
			text, encoding := s.Text(), s.Encode()
			a := steps(t, s, 0, enq(258), done)
			b := steps(t, s, 1, enq(772), done)
			c, _ := s.Fits(2, enq(65535), done)
			d := steps(t, a, 0, enq(1), done)
			e := steps(t, a, 0, enq(2), done)
			is(t, s, api.Queue, text, encoding)
			is(t, a, api.Queue, joined(text, "258"), encoding+"\x01\x02")
			is(t, b, api.Queue, joined(text, "772"), encoding+"\x03\x04")
			is(t, c, api.Queue, joined(text, "65535"), encoding+"\xff\xff")
			is(t, d, api.Queue, joined(text, "258 1"), encoding+"\x01\x02\x00\x01")
			is(t, e, api.Queue, joined(text, "258 2"), encoding+"\x01\x02\x00\x02")
		}
		stepped = after(t, stepped, calls(0, enq(n))...)
	}
}

// joined is the text of a queue, with those numbers behind the others.
func joined(text, numbers string) string {
	if text == "[]" {
		return "[" + numbers + "]"
	}
	return text[:len(text)-1] + " " + numbers + "]"
}

// TestStatesStay is P13.5: a state is what it was, whatever was made from it, over a tree of all steps of some depth.
func TestStatesStay(t *testing.T) {
	type node struct {
		s              model.State
		text, encoding string
	}
	for of, ops := range operations() {
		s := newOf(t, uint8(of))
		all := []node{{s, s.Text(), s.Encode()}}
		level := all
		for range 3 {
			var next []node
			for _, n := range level {
				for i, x := range ops {
					to, r, _ := n.s.Step(uint8(i), x)
					n.s.Fits(uint8(i+1), x, r)
					n.s.Fits(uint8(i+1), x, api.Result{K: api.No})
					next = append(next, node{to, to.Text(), to.Encode()})
				}
			}
			all, level = slices.Concat(all, next), next
		}
		for _, n := range all {
			is(t, n.s, uint8(of), n.text, n.encoding)
		}
	}
}
