package world_test

import (
	"encoding/binary"
	"fmt"
	"maps"
	"slices"
	"strings"
	"testing"

	"umpire/api"
	"umpire/model"
	"umpire/world"
)

// place is where a number is: a register's is at 0, those of a queue are at 0 and above, those of a map at their keys, and the holder of a lock is at 0.
type place struct{ obj, at int }

// flat is a second working-out of the definitions: the numbers of all objects in one map. A register at 0 has none in it, so an object is listed exactly if it has any.
type flat struct {
	of uint8
	at map[place]int
}

func newFlat(of uint8) flat { return flat{of, map[place]int{}} }

func (f flat) copy() flat { return flat{f.of, maps.Clone(f.at)} }

// set puts n at p, if that is what becomes of it, and tells whether it is.
func (f flat) set(p place, n int, becomes bool) api.Result {
	if !becomes {
		return no
	}
	f.at[p] = n
	if f.of == api.Register && n == 0 {
		delete(f.at, p)
	}
	return yes
}

// remove removes what is at p, if it is to be, and tells whether it is.
func (f flat) remove(p place, gone bool) api.Result {
	if !gone {
		return no
	}
	delete(f.at, p)
	return yes
}

// shift returns the first number of the queue, and moves each other one to the place before it.
func (f flat) shift(obj int) api.Result {
	l := f.numbers(obj)
	if len(l) == 0 {
		return none
	}
	for n := range l {
		delete(f.at, place{obj, n})
	}
	for n, v := range l[1:] {
		f.at[place{obj, n}] = v
	}
	return value(uint16(l[0]))
}

// do performs the call, and returns its result.
func (f flat) do(c call) api.Result {
	p, client, a, b := place{int(c.op.Obj), int(c.op.Key)}, int(c.client), int(c.op.A), int(c.op.B)
	n, there := f.at[p]
	switch c.op.F {
	case api.Write, api.Put:
		f.set(p, a, true)
	case api.Enq:
		f.set(place{p.obj, len(f.numbers(p.obj))}, a, true)
	case api.Deq:
		return f.shift(p.obj)
	case api.Read:
		return value(uint16(n))
	case api.Get:
		if !there {
			return none
		}
		return value(uint16(n))
	case api.CAS:
		return f.set(p, b, n == a)
	case api.Swap:
		return f.set(p, b, there && n == a)
	case api.Acquire:
		return f.set(p, client, !there)
	case api.Del:
		return f.remove(p, there)
	case api.Release:
		return f.remove(p, there && n == client)
	}
	return done
}

// keys are the places of the object at which there are numbers.
func (f flat) keys(obj int) []int {
	var l []int
	for p := range f.at {
		if p.obj == obj {
			l = append(l, p.at)
		}
	}
	slices.Sort(l)
	return l
}

// numbers are those of the object, by their places.
func (f flat) numbers(obj int) []int {
	var l []int
	for _, at := range f.keys(obj) {
		l = append(l, f.at[place{obj, at}])
	}
	return l
}

// stateText is what the text of the object's state must be.
func (f flat) stateText(obj int) string {
	l := f.numbers(obj)
	switch f.of {
	case api.Queue:
		return fmt.Sprint(l)
	case api.Map:
		var texts []string
		for i, key := range f.keys(obj) {
			texts = append(texts, fmt.Sprintf("%d:%d", key, l[i]))
		}
		return "{" + strings.Join(texts, " ") + "}"
	case api.Lock:
		return fmt.Sprintf("held by %d", l[0])
	}
	return fmt.Sprint(l[0])
}

// stateBytes is what the encoding of the object's state must be.
func (f flat) stateBytes(obj int) []byte {
	var b []byte
	switch f.of {
	case api.Lock:
		return []byte{byte(f.numbers(obj)[0] + 1)}
	case api.Map:
		b = []byte{0}
		for _, key := range f.keys(obj) {
			b[0] += 1 << key
		}
	}
	for _, n := range f.numbers(obj) {
		b = binary.BigEndian.AppendUint16(b, uint16(n))
	}
	return b
}

// listed are the objects that have numbers.
func (f flat) listed() []uint8 {
	var l []uint8
	for obj := range uint8(8) {
		if len(f.keys(int(obj))) > 0 {
			l = append(l, obj)
		}
	}
	return l
}

// text is what the text of the world must be.
func (f flat) text() string {
	var texts []string
	for _, obj := range f.listed() {
		texts = append(texts, fmt.Sprintf("%d=%s", obj, f.stateText(int(obj))))
	}
	if texts == nil {
		return "-"
	}
	return strings.Join(texts, " ")
}

// encoding is what the encoding of the world must be.
func (f flat) encoding() string {
	var b []byte
	for _, obj := range f.listed() {
		s := f.stateBytes(int(obj))
		b = append(b, obj)
		b = binary.BigEndian.AppendUint16(b, uint16(len(s)))
		b = append(b, s...)
	}
	return string(b)
}

// pair is a world, and what it must be.
type pair struct {
	w    world.World
	want flat
}

func newPair(t *testing.T, of uint8) pair {
	t.Helper()
	return pair{newOf(t, of), newFlat(of)}
}

// agrees tells whether w is what it must be.
func (p pair) agrees(t *testing.T) {
	t.Helper()
	is(t, p.w, p.want.of, p.want.text(), p.want.encoding(), p.want.listed()...)
	if d, e := world.Decode(p.want.of, p.want.encoding()); e != api.OK || !world.Same(d, p.w) || !world.Same(p.w, d) {
		t.Errorf("Decode of Encode of %s: %s, %d", p.want.text(), d.Text(), e)
	}
	if t.Failed() {
		t.FailNow()
	}
}

// next performs the call, and tells whether its result is what it must be, and the only one that fits.
func (p pair) next(t *testing.T, c call) pair {
	t.Helper()
	to := pair{want: p.want.copy()}
	r := to.want.do(c)
	to.w = steps(t, p.w, c.client, c.op, r)
	for k := range uint8(6) {
		fits(t, p.w, c.client, c.op, api.Result{K: k, V: r.V}, k == r.K)
		fits(t, p.w, c.client, c.op, api.Result{K: k, V: r.V + 1}, false)
	}
	to.agrees(t)
	return to
}

// lists calls do with the pair after each list of up to most calls that are some of these.
func lists(t *testing.T, p pair, some []call, most int, do func(pair)) {
	t.Helper()
	do(p)
	if most == 0 {
		return
	}
	for _, c := range some {
		lists(t, p.next(t, c), some, most-1, do)
	}
}

// few are some calls of each model, at their models.
func few() [4][]call {
	return [4][]call{
		calls(1, on(0, read), on(0, write(0)), on(0, write(258)), on(7, write(258)), on(3, cas(0, 258)), on(0, cas(258, 0)), on(7, cas(258, 1))),
		calls(2, on(0, deq), on(7, deq), on(0, enq(0)), on(7, enq(0)), on(7, enq(256)), on(3, enq(1))),
		calls(3, on(0, get(0)), on(0, put(0, 0)), on(0, put(7, 258)), on(3, put(0, 0)), on(7, put(7, 258)), on(0, del(0)), on(7, del(7)), on(3, swap(0, 0, 258))),
		slices.Concat(calls(0, on(0, acquire), on(7, acquire), on(0, release), on(3, acquire)), calls(15, on(0, acquire), on(7, release), on(7, acquire), on(3, release))),
	}
}

// TestShortSequences is P14.1 to P14.5: over all lists of a few calls.
func TestShortSequences(t *testing.T) {
	for of, some := range few() {
		lists(t, newPair(t, uint8(of)), some, 3, func(p pair) { p.agrees(t) })
	}
}

// picker picks numbers below n by a rule.
type picker uint32

func (p *picker) pick(n int) int {
	*p = *p*1664525 + 1013904223
	return int(*p>>8) % n
}

// call picks one of the model, by any client, with numbers below those.
func (p *picker) call(of uint8, numbers int) call {
	fs := [4][]uint8{{api.Read, api.Write, api.CAS, api.CAS}, {api.Enq, api.Enq, api.Deq}, {api.Get, api.Put, api.Put, api.Del, api.Swap}, {api.Acquire, api.Release}}[of]
	x := api.Op{F: fs[p.pick(len(fs))], Obj: uint8(p.pick(8)), Key: uint8(p.pick(8)), A: uint16(p.pick(numbers)), B: uint16(p.pick(numbers))}
	if of != api.Map {
		x.Key = 0
	}
	if x.F != api.CAS && x.F != api.Swap {
		x.B = 0
	}
	if x.F != api.Write && x.F != api.Enq && x.F != api.Put && x.F != api.CAS && x.F != api.Swap {
		x.A = 0
	}
	return call{uint8(p.pick(min(16, 2*numbers))), x}
}

// TestLongSequences is P14.1 to P14.5: over many lists made by a rule, of few numbers and of many ones, by few clients and by all.
func TestLongSequences(t *testing.T) {
	rule := picker(1)
	for of := range uint8(4) {
		for _, numbers := range []int{1, 2, 3, 300, 65536} {
			for range 4 {
				p := newPair(t, of)
				for range 100 {
					p = p.next(t, rule.call(of, numbers))
				}
			}
		}
	}
}

// TestSameAsEncodings is P14.5: two worlds of one model are equal exactly if their encodings are, and exactly if their texts are.
func TestSameAsEncodings(t *testing.T) {
	for of, some := range few() {
		var all []pair
		var encodings, texts []string
		lists(t, newPair(t, uint8(of)), some, 3, func(p pair) {
			all, encodings, texts = append(all, p), append(encodings, p.w.Encode()), append(texts, p.w.Text())
		})
		equal := 0
		for i, a := range all {
			for j, b := range all {
				want := maps.Equal(a.want.at, b.want.at)
				if want {
					equal++
				}
				if same, bytes, text := world.Same(a.w, b.w), encodings[i] == encodings[j], texts[i] == texts[j]; same != want || bytes != want || text != want {
					t.Fatalf("%s and %s: %t, their encodings %t, their texts %t, and not %t", a.want.text(), b.want.text(), same, bytes, text, want)
				}
			}
		}
		if equal <= len(all) || equal == len(all)*len(all) {
			t.Errorf("%d of %d pairs of worlds of %d are equal", equal, len(all)*len(all), of)
		}
	}
}

// results are those of the calls from w on, and the world after them.
func results(t *testing.T, w world.World, l []call) (world.World, []api.Result) {
	t.Helper()
	var all []api.Result
	for _, c := range l {
		to, r, e := w.Step(c.client, c.op)
		if e != api.OK {
			t.Fatalf("Step of %v by %d in %s: %d", c.op, c.client, w.Text(), e)
		}
		w, all = to, append(all, r)
	}
	return w, all
}

// TestCommute is P14.4: two steps of different objects lead to the same world, with the same results, in either order.
func TestCommute(t *testing.T) {
	for _, s := range some(t) {
		for _, objs := range [][2]uint8{{0, 1}, {0, 7}, {3, 4}, {6, 2}, {5, 0}} {
			for _, x := range operations()[s.of] {
				for _, y := range operations()[s.of] {
					a, b := call{9, on(objs[0], x)}, call{0, on(objs[1], y)}
					to, r := results(t, s.w, []call{a, b})
					other, u := results(t, s.w, []call{b, a})
					if !world.Same(to, other) || to.Encode() != other.Encode() || r[0] != u[1] || r[1] != u[0] {
						t.Fatalf("%v and %v in %s: %s, %v; in the other order: %s, %v", a, b, s.text, to.Text(), r, other.Text(), u)
					}
				}
			}
		}
	}
}

// ofObject are the calls on the object, and their results among those.
func ofObject(obj uint8, l []call, all []api.Result) ([]call, []api.Result) {
	var own []call
	var of []api.Result
	for i, c := range l {
		if c.op.Obj == obj {
			own, of = append(own, c), append(of, all[i])
		}
	}
	return own, of
}

// TestIndependent is P14.4: what an object answers, among steps of others, is what it answers to its own steps alone, whatever the other states are at first.
func TestIndependent(t *testing.T) {
	rule := picker(7)
	for _, s := range some(t) {
		for range 10 {
			var l []call
			for range 60 {
				l = append(l, rule.call(s.of, 3))
			}
			to, all := results(t, s.w, l)
			for obj := range uint8(8) {
				own, want := ofObject(obj, l, all)
				places := [8]int{rule.pick(4) - 1, rule.pick(4) - 1, rule.pick(4) - 1, rule.pick(4) - 1, rule.pick(4) - 1, rule.pick(4) - 1, rule.pick(4) - 1, rule.pick(4) - 1}
				places[obj] = s.states[obj]
				for _, from := range []world.World{s.w, sampleOf(t, s.of, places).w} {
					alone, got := results(t, from, own)
					a, _ := to.At(obj)
					b, _ := alone.At(obj)
					if !slices.Equal(got, want) || !model.Same(a, b) {
						t.Fatalf("%v from %s: %s, %v; among others from %s: %s, %v", own, from.Text(), b.Text(), got, s.text, a.Text(), want)
					}
				}
			}
		}
	}
}

// TestOtherOrders is P14.4: calls lead to the same world, object by object, from the first one on and from the last one on.
func TestOtherOrders(t *testing.T) {
	rule := picker(9)
	for _, s := range some(t) {
		for range 10 {
			var l []call
			for range 60 {
				l = append(l, rule.call(s.of, 3))
			}
			to, all := results(t, s.w, l)
			for _, by := range []int{1, -1} {
				sorted := slices.Clone(l)
				slices.SortStableFunc(sorted, func(a, b call) int { return by * (int(a.op.Obj) - int(b.op.Obj)) })
				other, got := results(t, s.w, sorted)
				if !world.Same(to, other) || to.Text() != other.Text() {
					t.Fatalf("%v from %s: %s, and not %s", sorted, s.text, other.Text(), to.Text())
				}
				for obj := range uint8(8) {
					_, want := ofObject(obj, l, all)
					if _, own := ofObject(obj, sorted, got); !slices.Equal(own, want) {
						t.Fatalf("%v from %s: on %d %v, and not %v", sorted, s.text, obj, own, want)
					}
				}
			}
		}
	}
}
