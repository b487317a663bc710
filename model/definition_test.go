package model_test

import (
	"encoding/binary"
	"fmt"
	"maps"
	"slices"
	"strings"
	"testing"

	"umpire/api"
	"umpire/model"
	"umpire/op"
	"umpire/result"
)

// thing is a second working-out of the definitions: an object of any model is numbers at places. A register's is at 0; a queue's are at 0 and above, and those of a map at their keys; the holder of a lock is at 0.
type thing struct {
	of uint8
	at map[int]int
}

func newThing(of uint8) thing {
	x := thing{of, map[int]int{}}
	if of == api.Register {
		x.at[0] = 0
	}
	return x
}

func (x thing) copy() thing { return thing{x.of, maps.Clone(x.at)} }

// swap puts b where a is, and tells whether it was there.
func (x thing) swap(place, a, b int) api.Result {
	if n, ok := x.at[place]; !ok || n != a {
		return no
	}
	x.at[place] = b
	return yes
}

// del removes what is there, if remove says so, and tells whether it did.
func (x thing) del(place int, remove func(n int) bool) api.Result {
	if n, ok := x.at[place]; !ok || !remove(n) {
		return no
	}
	delete(x.at, place)
	return yes
}

// get returns what is there.
func (x thing) get(place int) api.Result {
	n, ok := x.at[place]
	if !ok {
		return none
	}
	return value(uint16(n))
}

// do performs the call, and returns its result.
func (x thing) do(c call) api.Result {
	client, key, a, b := int(c.client), int(c.op.Key), int(c.op.A), int(c.op.B)
	switch c.op.F {
	case api.Read, api.Get:
		return x.get(key)
	case api.CAS, api.Swap:
		return x.swap(key, a, b)
	case api.Write, api.Put:
		x.at[key] = a
	case api.Del:
		return x.del(key, func(int) bool { return true })
	case api.Release:
		return x.del(0, func(n int) bool { return n == client })
	case api.Enq:
		x.at[len(x.at)] = a
	case api.Deq:
		r := x.get(0)
		for n := range len(x.at) {
			x.at[n] = x.at[n+1]
		}
		delete(x.at, len(x.at)-1)
		return r
	case api.Acquire:
		if len(x.at) > 0 {
			return no
		}
		x.at[0] = client
		return yes
	}
	return done
}

// numbers are those of x, by their places.
func (x thing) numbers() []int {
	var l []int
	for _, place := range slices.Sorted(maps.Keys(x.at)) {
		l = append(l, x.at[place])
	}
	return l
}

// text is what the text of x must be.
func (x thing) text() string {
	switch x.of {
	case api.Register:
		return fmt.Sprint(x.at[0])
	case api.Queue:
		return fmt.Sprint(x.numbers())
	case api.Map:
		return strings.NewReplacer("map[", "{", "]", "}").Replace(fmt.Sprint(x.at))
	}
	if len(x.at) == 0 {
		return "free"
	}
	return fmt.Sprintf("held by %d", x.at[0])
}

// encoding is what the encoding of x must be.
func (x thing) encoding() string {
	var b []byte
	switch x.of {
	case api.Map:
		bits := 0
		for key := range x.at {
			bits += 1 << key
		}
		b = append(b, byte(bits))
	case api.Lock:
		for client := range 16 {
			if x.get(0) == value(uint16(client)) {
				return string([]byte{byte(client + 1)})
			}
		}
		return "\x00"
	}
	for _, n := range x.numbers() {
		b = binary.BigEndian.AppendUint16(b, uint16(n))
	}
	return string(b)
}

// pair is a state, and what it must be.
type pair struct {
	s    model.State
	want thing
}

// agrees tells whether s is what it must be.
func (p pair) agrees(t *testing.T) {
	t.Helper()
	is(t, p.s, p.want.of, p.want.text(), p.want.encoding())
	if initial := maps.Equal(p.want.at, newThing(p.want.of).at); p.s.Initial() != initial {
		t.Errorf("Initial of %s: %t", p.want.text(), !initial)
	}
	if d, e := model.Decode(p.want.of, p.want.encoding()); e != api.OK || !model.Same(d, p.s) {
		t.Errorf("Decode of Encode of %s: %s, %d", p.want.text(), d.Text(), e)
	}
	if t.Failed() {
		t.FailNow()
	}
}

// next performs the call, and tells whether its result is what it must be, the only one that fits, and one of its kinds.
func (p pair) next(t *testing.T, c call) pair {
	t.Helper()
	to := pair{want: p.want.copy()}
	r := to.want.do(c)
	to.s = steps(t, p.s, c.client, c.op, r)
	if e := result.May(c.op.F, r); e != api.OK {
		t.Errorf("May of the result of %v in %s, %v: %d", c, p.want.text(), r, e)
	}
	for _, k := range []uint8{api.Done, api.Value, api.None, api.Yes, api.No, 5} {
		fits(t, p.s, c.client, c.op, api.Result{K: k, V: r.V}, k == r.K)
		fits(t, p.s, c.client, c.op, api.Result{K: k, V: r.V + 1}, false)
	}
	if model.Idle(p.want.of, c.op.F) && !model.Same(p.s, to.s) {
		t.Errorf("%v in %s leads to %s, though it is idle", c, p.want.text(), to.s.Text())
	}
	to.agrees(t)
	return to
}

// lists calls do with the pair after each list of up to most calls that are some of these.
func lists(t *testing.T, p pair, some []call, most int, do func(pair)) {
	t.Helper()
	do(p)
	if most == 0 {
		return
	}
	for _, c := range some {
		lists(t, p.next(t, c), some, most-1, do)
	}
}

// few are some calls of each model, at their models.
func few() [4][]call {
	return [4][]call{
		calls(1, read, write(0), write(258), cas(0, 258), cas(258, 0), cas(258, 65535)),
		calls(2, deq, enq(0), enq(1), enq(256)),
		calls(3, get(0), put(0, 0), put(0, 258), put(7, 258), del(0), del(7), swap(0, 0, 258), swap(7, 258, 0)),
		slices.Concat(calls(0, acquire, release), calls(1, acquire, release), calls(15, acquire, release)),
	}
}

// TestShortSequences is P13.1 to P13.7: over all lists of a few calls.
func TestShortSequences(t *testing.T) {
	for of, some := range few() {
		first := pair{newOf(t, uint8(of)), newThing(uint8(of))}
		lists(t, first, some, 4, func(p pair) { p.agrees(t) })
	}
}

// TestLongSequences is P13.1 to P13.7: over many lists made by a rule, of few numbers and of many ones, by few clients and by all.
func TestLongSequences(t *testing.T) {
	seed := uint32(1)
	next := func(n int) int {
		seed = seed*1664525 + 1013904223
		return int(seed>>8) % n
	}
	fs := [4][]uint8{{api.Read, api.Write, api.CAS, api.CAS}, {api.Enq, api.Deq}, {api.Get, api.Put, api.Del, api.Swap, api.Swap}, {api.Acquire, api.Release}}
	for of := range uint8(4) {
		for _, numbers := range []int{1, 2, 3, 300, 65536} {
			for range 10 {
				p := pair{newOf(t, of), newThing(of)}
				for range 100 {
					x := api.Op{F: fs[of][next(len(fs[of]))], Obj: uint8(next(8)), Key: uint8(next(8)), A: uint16(next(numbers)), B: uint16(next(numbers))}
					p = p.next(t, call{uint8(next(min(16, 2*numbers))), valid(of, x)})
				}
			}
		}
	}
}

// valid is x without what it does not need.
func valid(of uint8, x api.Op) api.Op {
	for _, y := range []api.Op{x, with(x, x.Obj, x.Key, x.A, 0), with(x, x.Obj, x.Key, 0, 0), with(x, x.Obj, 0, x.A, x.B), with(x, x.Obj, 0, x.A, 0), with(x, x.Obj, 0, 0, 0)} {
		if op.Check(of, y) == api.OK {
			return y
		}
	}
	return x
}

// TestSameAsTexts is P13.6: two states of one model are the same exactly if their encodings are, and exactly if their texts are.
func TestSameAsTexts(t *testing.T) {
	for of, some := range few() {
		var all []pair
		lists(t, pair{newOf(t, uint8(of)), newThing(uint8(of))}, some, 3, func(p pair) { all = append(all, p) })
		for _, a := range all {
			for _, b := range all {
				want := maps.Equal(a.want.at, b.want.at)
				if same, bytes, text := model.Same(a.s, b.s), a.s.Encode() == b.s.Encode(), a.s.Text() == b.s.Text(); same != want || bytes != want || text != want {
					t.Fatalf("%s and %s: %t, their encodings %t, their texts %t, and not %t", a.want.text(), b.want.text(), same, bytes, text, want)
				}
			}
		}
	}
}

// TestStepIsFunction is P13.5: the same call in the same state, however it was made, leads to the same state, with the same result.
func TestStepIsFunction(t *testing.T) {
	for of, some := range few() {
		lists(t, pair{newOf(t, uint8(of)), newThing(uint8(of))}, some, 3, func(p pair) {
			decoded, _ := model.Decode(uint8(of), p.s.Encode())
			for _, c := range some {
				to, r, _ := p.s.Step(c.client, c.op)
				again, second, _ := p.s.Step(c.client, c.op)
				other, third, _ := decoded.Step(c.client, c.op)
				if !model.Same(to, again) || !model.Same(to, other) || r != second || r != third {
					t.Fatalf("Step of %v in %s: %s, %v; %s, %v; %s, %v", c, p.want.text(), to.Text(), r, again.Text(), second, other.Text(), third)
				}
			}
		})
	}
}

// TestClient is P13.7: it makes no difference, except to a lock, where it does to each operation.
func TestClient(t *testing.T) {
	for of, states := range some(t) {
		for _, x := range operations()[of] {
			differs := false
			for _, s := range states {
				want, wantResult, _ := s.Step(0, x)
				for client := range uint8(16) {
					to, r, e := s.Step(client, x)
					if e != api.OK {
						t.Errorf("Step of %v by %d in %s: %d", x, client, s.Text(), e)
					}
					differs = differs || r != wantResult || !model.Same(to, want)
				}
			}
			if differs != (of == api.Lock) {
				t.Errorf("that the client makes a difference to %v is %t", x, differs)
			}
		}
	}
}

// TestOneResult is P13.7: of all results, valid or not, one fits, and it is one of the operation's kinds.
func TestOneResult(t *testing.T) {
	var all []api.Result
	for k := range 256 {
		for _, v := range []uint16{0, 1, 5, 255, 256, 65535} {
			if k != api.Value {
				all = append(all, api.Result{K: uint8(k), V: v})
			}
		}
	}
	for v := range 65536 {
		all = append(all, value(uint16(v)))
	}
	for of, states := range some(t) {
		for _, x := range operations()[of] {
			var fitting []api.Result
			for _, r := range all {
				if _, ok := states[1].Fits(4, x, r); ok {
					fitting = append(fitting, r)
				}
			}
			if len(fitting) != 1 || result.May(x.F, fitting[0]) != api.OK {
				t.Errorf("of %v in %s fit %v", x, states[1].Text(), fitting)
			}
		}
	}
}
