package kvmap_test

import (
	"testing"

	"umpire/api"
	"umpire/kvmap"
)

// The results that steps have.
var (
	done = api.Result{K: api.Done}
	none = api.Result{K: api.None}
	yes  = api.Result{K: api.Yes}
	no   = api.Result{K: api.No}
)

func value(v uint16) api.Result { return api.Result{K: api.Value, V: v} }

func get(key uint8) api.Op { return api.Op{F: api.Get, Key: key} }

func put(key uint8, a uint16) api.Op { return api.Op{F: api.Put, Key: key, A: a} }

func del(key uint8) api.Op { return api.Op{F: api.Del, Key: key} }

func swap(key uint8, a, b uint16) api.Op { return api.Op{F: api.Swap, Key: key, A: a, B: b} }

// edges are numbers that differ in their bytes, up to the least and the greatest.
func edges() []uint16 { return []uint16{0, 1, 255, 256, 65535} }

// examples are states of no key, of one, of several and of all.
func examples() []kvmap.State {
	return []kvmap.State{
		{},
		{Has: 1, V: [8]uint16{258}},
		{Has: 16, V: [8]uint16{4: 7}},
		{Has: 128, V: [8]uint16{7: 65535}},
		{Has: 128},
		{Has: 5, V: [8]uint16{0: 1, 2: 258}},
		{Has: 0b01010101, V: [8]uint16{0: 5, 4: 65535, 6: 256}},
		{Has: 0b10101010, V: [8]uint16{1: 5, 5: 65535, 7: 256}},
		{Has: 255, V: [8]uint16{0, 1, 255, 256, 257, 65535, 5, 513}},
		{Has: 255, V: [8]uint16{9, 9, 9, 9, 9, 9, 9, 9}},
		{Has: 255},
	}
}

// broken are states that may not be: a key that is not there has a number.
func broken() []kvmap.State {
	return []kvmap.State{
		{V: [8]uint16{5}},
		{V: [8]uint16{3: 256}},
		{V: [8]uint16{7: 65535}},
		{Has: 254, V: [8]uint16{1, 2, 3, 4, 5, 6, 7, 8}},
		{Has: 127, V: [8]uint16{1, 2, 3, 4, 5, 6, 7, 8}},
		{Has: 247, V: [8]uint16{3: 1}},
		{Has: 1, V: [8]uint16{1: 1}},
		{Has: 128, V: [8]uint16{6: 1, 7: 1}},
		{V: [8]uint16{1, 2, 3, 4, 5, 6, 7, 8}},
	}
}

// with is s, except that the key is there with that number.
func with(s kvmap.State, key uint8, v uint16) kvmap.State {
	s.Has |= 1 << key
	s.V[key] = v
	return s
}

// without is s, except that the key is not there.
func without(s kvmap.State, key uint8) kvmap.State {
	s = with(s, key, 0)
	s.Has -= 1 << key
	return s
}

// places calls do with each key, in each of some states.
func places(do func(s kvmap.State, key uint8)) {
	for _, s := range examples() {
		for key := range uint8(8) {
			do(s, key)
		}
	}
}

// steps tells whether Step of op from s leads to that state, with that result, and leaves the state that was passed.
func steps(t *testing.T, s kvmap.State, op api.Op, want kvmap.State, wantResult api.Result) {
	t.Helper()
	was := s
	if to, r, e := kvmap.Step(s, op); to != want || r != wantResult || e != api.OK || s != was {
		t.Errorf("Step of %v in %v: %v, %v, %d, and not %v, %v; it left %v", op, was, to, r, e, want, wantResult, s)
	}
}

// refuses tells whether Step of op from s is refused as foreign.
func refuses(t *testing.T, s kvmap.State, op api.Op) {
	t.Helper()
	if to, r, e := kvmap.Step(s, op); to != s || r != (api.Result{}) || e != api.ErrForeign {
		t.Errorf("Step of %v in %v: %v, %v, %d", op, s, to, r, e)
	}
}

// isOwn tells whether operations with that F are the map's.
func isOwn(f int) bool { return f == api.Get || f == api.Put || f == api.Del || f == api.Swap }

// TestNew is P11.1: the initial state is the zero value, and has no key.
func TestNew(t *testing.T) {
	if s := kvmap.New(); s != (kvmap.State{}) || kvmap.Check(s) != api.OK {
		t.Errorf("New: %v, and Check of it %d", s, kvmap.Check(s))
	}
	for key := range uint8(8) {
		steps(t, kvmap.New(), get(key), kvmap.State{}, none)
		steps(t, kvmap.State{}, get(key), kvmap.New(), none)
	}
}

// TestCheck is P11.1: of states that may be, also where a key is there with 0, and of ones that may not.
func TestCheck(t *testing.T) {
	for _, s := range examples() {
		if e := kvmap.Check(s); e != api.OK {
			t.Errorf("Check of %v: %d", s, e)
		}
	}
	for _, s := range broken() {
		if e := kvmap.Check(s); e != api.ErrForm {
			t.Errorf("Check of %v: %d", s, e)
		}
	}
}

// TestCheckOfEachKey is P11.1: whichever key has a number, and whichever are there.
func TestCheckOfEachKey(t *testing.T) {
	for has := range 256 {
		for key := range 8 {
			for _, v := range edges() {
				s, want := kvmap.State{Has: uint8(has)}, api.OK
				s.V[key] = v
				if v != 0 && has&(1<<key) == 0 {
					want = api.ErrForm
				}
				if e := kvmap.Check(s); e != want {
					t.Errorf("Check of %v: %d, and not %d", s, e, want)
				}
			}
		}
	}
}

// TestKeysAreBits is P11.1: the lowest bit is key 0, the highest one key 7.
func TestKeysAreBits(t *testing.T) {
	for key, has := range []uint8{1, 2, 4, 8, 16, 32, 64, 128} {
		want := kvmap.State{Has: has}
		want.V[key] = 5
		steps(t, kvmap.State{}, put(uint8(key), 5), want, done)
		steps(t, want, get(uint8(key)), want, value(5))
		steps(t, want, del(uint8(key)), kvmap.State{}, yes)
	}
}

// TestGet is P11.1: the number, or None; the state stays.
func TestGet(t *testing.T) {
	places(func(s kvmap.State, key uint8) {
		steps(t, without(s, key), get(key), without(s, key), none)
		for _, v := range edges() {
			steps(t, with(s, key, v), get(key), with(s, key, v), value(v))
		}
	})
}

// TestPut is P11.1: the key is there with A, whether it was there or not.
func TestPut(t *testing.T) {
	places(func(s kvmap.State, key uint8) {
		for _, a := range edges() {
			steps(t, without(s, key), put(key, a), with(s, key, a), done)
			for _, v := range edges() {
				steps(t, with(s, key, v), put(key, a), with(s, key, a), done)
			}
		}
	})
}

// TestDel is P11.1: a key that is there is removed, and its number becomes 0.
func TestDel(t *testing.T) {
	places(func(s kvmap.State, key uint8) {
		steps(t, without(s, key), del(key), without(s, key), no)
		for _, v := range edges() {
			steps(t, with(s, key, v), del(key), without(s, key), yes)
			if to, _, _ := kvmap.Step(with(s, key, v), del(key)); to.V[key] != 0 || kvmap.Check(to) != api.OK {
				t.Errorf("Del of %d in %v left %v", key, with(s, key, v), to)
			}
		}
	})
}

// TestSwapOfTheNumber is P11.1: a Swap whose A is the number, also one to the same number.
func TestSwapOfTheNumber(t *testing.T) {
	places(func(s kvmap.State, key uint8) {
		for _, v := range edges() {
			for _, b := range append(edges(), v, v-1, v+1, v^256) {
				steps(t, with(s, key, v), swap(key, v, b), with(s, key, b), yes)
			}
		}
	})
}

// TestSwapOfAnother is P11.1: a Swap whose A is not the number, also if its B is, or both are the same.
func TestSwapOfAnother(t *testing.T) {
	places(func(s kvmap.State, key uint8) {
		for _, v := range edges() {
			for _, a := range []uint16{v - 1, v + 1, v - 256, v + 256, v ^ 32768, ^v} {
				for _, b := range append(edges(), v, a) {
					steps(t, with(s, key, v), swap(key, a, b), with(s, key, v), no)
				}
			}
		}
	})
}

// TestSwapOfNoKey is P11.1: where the key is not there, A is not its number, not even 0.
func TestSwapOfNoKey(t *testing.T) {
	places(func(s kvmap.State, key uint8) {
		for _, a := range edges() {
			for _, b := range edges() {
				steps(t, without(s, key), swap(key, a, b), without(s, key), no)
			}
		}
	})
}

// TestOtherFields is P11.1: Obj makes no difference, nor A and B where the operation does not need them, even where there is no such object.
func TestOtherFields(t *testing.T) {
	for _, obj := range []uint8{0, 1, 7, 8, 255} {
		for _, n := range edges() {
			s := kvmap.State{Has: 5, V: [8]uint16{0: 1, 2: 258}}
			for key, v := range map[uint8]uint16{0: 1, 2: 258} {
				steps(t, s, api.Op{F: api.Get, Obj: obj, Key: key, A: n, B: n + 1}, s, value(v))
				steps(t, s, api.Op{F: api.Put, Obj: obj, Key: key, A: 9, B: n}, with(s, key, 9), done)
				steps(t, s, api.Op{F: api.Del, Obj: obj, Key: key, A: n, B: n + 1}, without(s, key), yes)
				steps(t, s, api.Op{F: api.Swap, Obj: obj, Key: key, A: v, B: n}, with(s, key, n), yes)
			}
			steps(t, s, api.Op{F: api.Get, Obj: obj, Key: 1, A: n, B: n + 1}, s, none)
			steps(t, s, api.Op{F: api.Put, Obj: obj, Key: 1, A: 9, B: n}, with(s, 1, 9), done)
			steps(t, s, api.Op{F: api.Del, Obj: obj, Key: 1, A: n, B: n + 1}, s, no)
			steps(t, s, api.Op{F: api.Swap, Obj: obj, Key: 1, A: n, B: 9}, s, no)
		}
	}
}

// TestForeign is P11.1: every F that is not the map's, and every key above 7, is refused in every state, whatever else the operation has.
func TestForeign(t *testing.T) {
	for _, s := range append(examples(), broken()...) {
		for f := range 256 {
			for _, key := range []uint8{0, 3, 7, 8, 9, 15, 16, 128, 255} {
				if !isOwn(f) || key > 7 {
					refuses(t, s, api.Op{F: uint8(f), Key: key})
					refuses(t, s, api.Op{F: uint8(f), Obj: 3, Key: key, A: s.V[key%8], B: 9})
				} else if _, _, e := kvmap.Step(s, api.Op{F: uint8(f), Key: key}); e != api.OK {
					t.Errorf("Step of %d at %d in %v: %d", f, key, s, e)
				}
			}
		}
	}
}

// TestEveryKeyAbove is P11.1: none above 7 is the map's.
func TestEveryKeyAbove(t *testing.T) {
	for key := 8; key < 256; key++ {
		for _, op := range []api.Op{get(uint8(key)), put(uint8(key), 5), del(uint8(key)), swap(uint8(key), 0, 5)} {
			refuses(t, kvmap.State{}, op)
			refuses(t, kvmap.State{Has: 255}, op)
		}
	}
}

// TestNotThere is P11.1 of states that may not be: a number whose key is not there is no number of the state.
func TestNotThere(t *testing.T) {
	for _, s := range broken() {
		for key := range uint8(8) {
			if s.Has&(1<<key) == 0 {
				steps(t, s, get(key), s, none)
				steps(t, s, del(key), s, no)
				steps(t, s, swap(key, s.V[key], 9), s, no)
				steps(t, s, put(key, 9), with(s, key, 9), done)
			} else {
				steps(t, s, get(key), s, value(s.V[key]))
				steps(t, s, del(key), without(s, key), yes)
			}
		}
	}
}

// TestAgain is P11.1: the same operation in the same state has the same result, whatever was done between.
func TestAgain(t *testing.T) {
	places(func(s kvmap.State, key uint8) {
		for _, op := range []api.Op{get(key), put(key, 7), del(key), swap(key, s.V[key], 7), swap(key, 6, 7), get(key + 8)} {
			to, r, e := kvmap.Step(s, op)
			for _, between := range []api.Op{get(key), put(key, 9), del(key), swap(key, 7, 8), put(7-key, 5)} {
				kvmap.Step(to, between)
				kvmap.Run(to, []api.Op{between, put(key, 6)})
				if to2, r2, e2 := kvmap.Step(s, op); to2 != to || r2 != r || e2 != e {
					t.Errorf("Step of %v in %v, again: %v, %v, %d, and not %v, %v, %d", op, s, to2, r2, e2, to, r, e)
				}
			}
		}
	})
}

// TestIdle is P11.3: of each F that there is, and of ones that are none.
func TestIdle(t *testing.T) {
	for f := range 256 {
		if got := kvmap.Idle(uint8(f)); got != (f == api.Get) {
			t.Errorf("Idle of %d: %t", f, got)
		}
	}
}

// TestIdleLeavesStates is P11.3: exactly the operations that are the map's and never change a state are idle.
func TestIdleLeavesStates(t *testing.T) {
	for f := range 256 {
		leaves := isOwn(f)
		places(func(s kvmap.State, key uint8) {
			to, _, _ := kvmap.Step(s, api.Op{F: uint8(f), Key: key, A: s.V[key], B: s.V[key] + 1})
			leaves = leaves && to == s
		})
		if got := kvmap.Idle(uint8(f)); got != leaves {
			t.Errorf("Idle of %d: %t, but it leaves the states: %t", f, got, leaves)
		}
	}
}

// TestExamples are the chapter's examples.
func TestExamples(t *testing.T) {
	runs(t, kvmap.New(), []api.Op{get(3), put(3, 5), swap(3, 5, 7), swap(3, 5, 8), get(3), del(3), del(3)}, kvmap.New(), []api.Result{none, done, yes, no, value(7), yes, no}, api.OK)
	refuses(t, kvmap.New(), get(8))
	refuses(t, kvmap.New(), api.Op{F: api.Read})
	s := kvmap.State{Has: 5, V: [8]uint16{1, 0, 258}}
	encodes(t, s, "\x05\x00\x01\x01\x02")
	decodes(t, "\x01\x00", kvmap.State{}, api.ErrForm)
	decodes(t, "\x00\x00", kvmap.State{}, api.ErrForm)
	decodes(t, "\x00", kvmap.New(), api.OK)
	only(t, s, 2, kvmap.State{Has: 4, V: [8]uint16{2: 258}})
	only(t, s, 1, kvmap.New())
	only(t, s, 9, kvmap.New())
}
