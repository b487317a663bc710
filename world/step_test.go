package world_test

import (
	"testing"

	"umpire/api"
	"umpire/model"
	"umpire/world"
)

// steps tells whether Step and Fits of x by the client from w have that result, and leave w; it returns the world after them.
func steps(t *testing.T, w world.World, client uint8, x api.Op, want api.Result) world.World {
	t.Helper()
	text, encoding := w.Text(), w.Encode()
	to, r, e := w.Step(client, x)
	if r != want || e != api.OK {
		t.Errorf("Step of %v by %d in %s: %v, %d, and not %v", x, client, text, r, e, want)
	}
	fit, ok := w.Fits(client, x, want)
	if !ok || !world.Same(fit, to) {
		t.Errorf("Fits of %v by %d, %v, in %s: %s, %t, and not %s", x, client, want, text, fit.Text(), ok, to.Text())
	}
	if w.Text() != text || w.Encode() != encoding {
		t.Errorf("Step of %v by %d in %s left %s", x, client, text, w.Text())
	}
	for obj := range uint8(8) {
		from, _ := w.At(obj)
		now, _ := to.At(obj)
		must := from
		if obj == x.Obj {
			must, _, _ = from.Step(client, x)
		}
		if !model.Same(now, must) {
			t.Errorf("Step of %v by %d in %s: %d is %s, and not %s", x, client, text, obj, now.Text(), must.Text())
		}
	}
	return to
}

// refuses tells whether Step of x by the client from w returns that error, with the world that was passed and the zero result, and whether no result fits.
func refuses(t *testing.T, w world.World, client uint8, x api.Op, want api.Errno) {
	t.Helper()
	if to, r, e := w.Step(client, x); !world.Same(to, w) || r != (api.Result{}) || e != want {
		t.Errorf("Step of %v by %d in %s: %s, %v, %d, and not %d", x, client, w.Text(), to.Text(), r, e, want)
	}
	for _, r := range []api.Result{done, none, yes, no, value(0), value(5), {K: 5}} {
		if to, ok := w.Fits(client, x, r); ok || !world.Same(to, w) {
			t.Errorf("Fits of %v by %d, %v, in %s: %s, %t", x, client, r, w.Text(), to.Text(), ok)
		}
	}
}

// fits tells whether Fits returns the world after the step, if the result is to fit, and otherwise w.
func fits(t *testing.T, w world.World, client uint8, x api.Op, r api.Result, want bool) {
	t.Helper()
	wantTo := w
	if want {
		wantTo, _, _ = w.Step(client, x)
	}
	if to, ok := w.Fits(client, x, r); ok != want || !world.Same(to, wantTo) {
		t.Errorf("Fits of %v by %d, %v, in %s: %s, %t, and not %s, %t", x, client, r, w.Text(), to.Text(), ok, wantTo.Text(), want)
	}
}

// foreign are operations on an object that there is which worlds of the model refuse: those of each other model, of none, and its own with what they cannot have.
func foreign(of uint8) []api.Op {
	var l []api.Op
	for other, ops := range operations() {
		if other != int(of) {
			l = append(l, ops...)
		}
	}
	for _, f := range []uint8{0, 12, 13, 128, 255} {
		l = append(l, api.Op{F: f}, api.Op{F: f, Key: 1, A: 5, B: 6})
	}
	for _, x := range operations()[of] {
		x.Key = 8
		l = append(l, x)
	}
	unneeded := [4][]api.Op{
		{{F: api.Read, Key: 1}, {F: api.Read, A: 1}, {F: api.Read, B: 1}, {F: api.Write, Key: 1, A: 5}, {F: api.Write, A: 5, B: 1}, {F: api.CAS, Key: 7, B: 5}},
		{{F: api.Deq, Key: 1}, {F: api.Deq, A: 1}, {F: api.Deq, B: 256}, {F: api.Enq, Key: 1, A: 5}, {F: api.Enq, A: 5, B: 1}},
		{{F: api.Get, Key: 3, A: 1}, {F: api.Get, B: 1}, {F: api.Put, A: 5, B: 1}, {F: api.Del, A: 1}, {F: api.Del, B: 1}},
		{{F: api.Acquire, Key: 1}, {F: api.Acquire, A: 1}, {F: api.Acquire, B: 1}, {F: api.Release, Key: 1}, {F: api.Release, A: 1}},
	}
	return append(l, unneeded[of]...)
}

// TestStep is P14.2: operations of each model, on several objects.
func TestStep(t *testing.T) {
	w := newOf(t, api.Register)
	steps(t, w, 0, on(3, read), value(0))
	w = steps(t, w, 0, on(3, write(5)), done)
	steps(t, w, 1, on(3, read), value(5))
	steps(t, w, 1, on(4, read), value(0))
	w = steps(t, w, 2, on(0, cas(0, 258)), yes)
	w = steps(t, w, 3, on(7, cas(5, 258)), no)
	is(t, w, api.Register, "0=258 3=5", "\x00\x00\x02\x01\x02\x03\x00\x02\x00\x05", 0, 3)
	is(t, steps(t, w, 15, on(3, write(0)), done), api.Register, "0=258", "\x00\x00\x02\x01\x02", 0)

	w = newOf(t, api.Queue)
	steps(t, w, 0, on(7, deq), none)
	w = steps(t, w, 15, on(7, enq(258)), done)
	w = steps(t, w, 7, on(1, enq(3)), done)
	w = steps(t, w, 7, on(7, enq(0)), done)
	is(t, w, api.Queue, "1=[3] 7=[258 0]", "\x01\x00\x02\x00\x03\x07\x00\x04\x01\x02\x00\x00", 1, 7)
	w = steps(t, w, 0, on(7, deq), value(258))
	w = steps(t, w, 0, on(1, deq), value(3))
	is(t, w, api.Queue, "7=[0]", "\x07\x00\x02\x00\x00", 7)

	w = newOf(t, api.Map)
	steps(t, w, 0, on(5, get(7)), none)
	w = steps(t, w, 0, on(5, put(7, 258)), done)
	w = steps(t, w, 0, on(0, put(7, 0)), done)
	steps(t, w, 0, on(5, get(7)), value(258))
	steps(t, w, 0, on(0, get(7)), value(0))
	steps(t, w, 0, on(1, del(7)), no)
	steps(t, w, 0, on(0, swap(7, 258, 1)), no)
	is(t, steps(t, w, 0, on(5, swap(7, 258, 1)), yes), api.Map, "0={7:0} 5={7:1}", "\x00\x00\x03\x80\x00\x00\x05\x00\x03\x80\x00\x01", 0, 5)
	is(t, steps(t, w, 0, on(0, del(7)), yes), api.Map, "5={7:258}", "\x05\x00\x03\x80\x01\x02", 5)

	w = newOf(t, api.Lock)
	steps(t, w, 9, on(2, release), no)
	w = steps(t, w, 15, on(2, acquire), yes)
	w = steps(t, w, 0, on(6, acquire), yes)
	steps(t, w, 0, on(2, acquire), no)
	steps(t, w, 0, on(2, release), no)
	is(t, w, api.Lock, "2=held by 15 6=held by 0", "\x02\x00\x01\x10\x06\x00\x01\x01", 2, 6)
	is(t, steps(t, w, 15, on(2, release), yes), api.Lock, "6=held by 0", "\x06\x00\x01\x01", 6)
}

// TestStepIsOfState is P14.2: each operation on each object has the effect that it has on the state of that object alone.
func TestStepIsOfState(t *testing.T) {
	for _, s := range some(t) {
		for obj := range uint8(8) {
			from, _ := s.w.At(obj)
			for _, x := range operations()[s.of] {
				for _, client := range []uint8{0, 9, 15} {
					_, r, _ := from.Step(client, on(obj, x))
					steps(t, s.w, client, on(obj, x), r)
				}
			}
		}
	}
}

// TestArg is P14.2: a client that there is not.
func TestArg(t *testing.T) {
	for _, s := range some(t) {
		for _, x := range operations()[s.of] {
			refuses(t, s.w, 16, on(3, x), api.ErrArg)
			refuses(t, s.w, 255, on(7, x), api.ErrArg)
		}
		for client := 16; client < 256; client++ {
			refuses(t, s.w, uint8(client), operations()[s.of][0], api.ErrArg)
		}
	}
}

// TestForeign is P14.2: an operation of each other model, of none, and one that is not valid.
func TestForeign(t *testing.T) {
	for _, s := range some(t) {
		for _, x := range foreign(s.of) {
			refuses(t, s.w, 0, x, api.ErrForeign)
			refuses(t, s.w, 15, on(7, x), api.ErrForeign)
		}
	}
}

// TestObjOfNone is P14.2: an object that there is not.
func TestObjOfNone(t *testing.T) {
	for _, s := range some(t) {
		for _, x := range operations()[s.of] {
			refuses(t, s.w, 0, on(8, x), api.ErrForeign)
			refuses(t, s.w, 15, on(255, x), api.ErrForeign)
		}
		for obj := 8; obj < 256; obj++ {
			refuses(t, s.w, 3, on(uint8(obj), operations()[s.of][0]), api.ErrForeign)
		}
	}
}

// TestFirstError is P14.2: of several errors it is ErrNil, and otherwise ErrArg.
func TestFirstError(t *testing.T) {
	var zero world.World
	for _, s := range some(t) {
		all := foreign(s.of)
		for _, x := range operations()[s.of] {
			all = append(all, on(8, x), on(255, x))
			refuses(t, zero, 16, x, api.ErrNil)
			refuses(t, zero, 255, on(7, x), api.ErrNil)
		}
		for _, x := range all {
			for _, client := range []uint8{16, 255} {
				refuses(t, s.w, client, x, api.ErrArg)
				refuses(t, zero, client, x, api.ErrNil)
			}
			refuses(t, s.w, 16, on(8, x), api.ErrArg)
			refuses(t, s.w, 3, on(8, x), api.ErrForeign)
			refuses(t, zero, 0, x, api.ErrNil)
		}
	}
}

// TestFits is P14.2: with the result, with another K, and with another V, also where that leaves no valid result.
func TestFits(t *testing.T) {
	for _, s := range some(t) {
		for _, x := range operations()[s.of] {
			for _, obj := range []uint8{0, 3, 7} {
				x = on(obj, x)
				_, r, _ := s.w.Step(9, x)
				for k := range uint8(7) {
					fits(t, s.w, 9, x, api.Result{K: k, V: r.V}, k == r.K)
				}
				for _, v := range []uint16{r.V + 1, r.V - 1, r.V ^ 256, ^r.V} {
					fits(t, s.w, 9, x, api.Result{K: r.K, V: v}, false)
				}
				fits(t, s.w, 9, x, api.Result{K: 255, V: r.V}, false)
			}
		}
	}
}

// TestTwoEnqs is P14.5: two different ones, performed from one world, one after the other, at each length, where a list may have room behind it.
func TestTwoEnqs(t *testing.T) {
	stepped := made(t, api.Queue, on(2, enq(7)))
	for n := range uint16(100) {
		decoded, _ := world.Decode(api.Queue, stepped.Encode())
		shorter := after(t, stepped, calls(0, on(5, enq(999)), on(5, deq))...)
		for _, w := range []world.World{stepped, decoded, shorter} {
			text, encoding := w.Text(), w.Encode()
			a := steps(t, w, 0, on(5, enq(258)), done)
			b := steps(t, w, 1, on(5, enq(772)), done)
			c, _ := w.Fits(2, on(5, enq(65535)), done)
			d := steps(t, a, 0, on(5, enq(1)), done)
			e := steps(t, a, 0, on(2, enq(2)), done)
			if w.Text() != text || w.Encode() != encoding {
				t.Errorf("two Enqs on 5 in %s left %s", text, w.Text())
			}
			enqueued(t, w, a, 258)
			enqueued(t, w, b, 772)
			enqueued(t, w, c, 65535)
			enqueued(t, a, d, 1)
			enqueued(t, w, e, 258)
		}
		stepped = after(t, stepped, call{0, on(5, enq(n))})
	}
}

// enqueued tells whether object 5 of to is a queue with the numbers that it has in w, and that one behind them.
func enqueued(t *testing.T, w, to world.World, n uint16) {
	t.Helper()
	from, _ := w.At(5)
	now, _ := to.At(5)
	if want := from.Encode() + string([]byte{byte(n >> 8), byte(n)}); now.Encode() != want {
		t.Errorf("Enq of %d on 5 in %s: %s", n, w.Text(), now.Text())
	}
}

// TestWorldsStay is P14.5: a world is what it was, whatever was made from it, over a tree of all steps of some depth.
func TestWorldsStay(t *testing.T) {
	type node struct {
		w              world.World
		text, encoding string
	}
	for of, ops := range operations() {
		w := sampleOf(t, uint8(of), [8]int{1, -1, 2, -1, -1, -1, -1, -1}).w
		all := []node{{w, w.Text(), w.Encode()}}
		from := 0
		for range 3 {
			level := all[from:]
			from = len(all)
			for _, n := range level {
				for i, x := range ops {
					to, r, _ := n.w.Step(uint8(i), on(uint8(i%3), x))
					n.w.Fits(uint8(i+1), on(2, x), r)
					n.w.Fits(uint8(i+1), on(2, x), no)
					all = append(all, node{to, to.Text(), to.Encode()})
				}
			}
		}
		for _, n := range all {
			if n.w.Text() != n.text || n.w.Encode() != n.encoding {
				t.Fatalf("%s became %s", n.text, n.w.Text())
			}
		}
	}
}
