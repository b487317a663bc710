package world_test

import (
	"slices"
	"testing"

	"umpire/api"
	"umpire/model"
	"umpire/world"
)

// newOf is the world of the model in which no object is listed.
func newOf(t *testing.T, of uint8) world.World {
	t.Helper()
	w, e := world.New(of)
	if e != api.OK {
		t.Fatalf("New of %d: %d", of, e)
	}
	return w
}

// after is the world to which those calls lead from w.
func after(t *testing.T, w world.World, l ...call) world.World {
	t.Helper()
	for _, c := range l {
		to, _, e := w.Step(c.client, c.op)
		if e != api.OK {
			t.Fatalf("Step of %v by %d in %s: %d", c.op, c.client, w.Text(), e)
		}
		w = to
	}
	return w
}

// made is the world to which those operations of client 0 lead from the new one of the model.
func made(t *testing.T, of uint8, ops ...api.Op) world.World {
	t.Helper()
	return after(t, newOf(t, of), calls(0, ops...)...)
}

// is tells whether w is a world of that model, with that text and that encoding, in which those objects are listed.
func is(t *testing.T, w world.World, of uint8, text, encoding string, listed ...uint8) {
	t.Helper()
	if got, ok := w.Model(); got != of || !ok {
		t.Errorf("Model of %s: %d, %t, and not %d", w.Text(), got, ok, of)
	}
	if w.Text() != text || w.Encode() != encoding {
		t.Errorf("Text and Encode: %q, % x, and not %q, % x", w.Text(), w.Encode(), text, encoding)
	}
	if l := slices.Collect(w.Objects()); !slices.Equal(l, listed) {
		t.Errorf("Objects of %s: %v, and not %v", w.Text(), l, listed)
	}
	for obj := range uint8(8) {
		s, ok := w.At(obj)
		if got, is := s.Model(); !ok || !is || got != of || s.Initial() == slices.Contains(listed, obj) {
			t.Errorf("At of %d in %s: %s of %d, %t", obj, w.Text(), s.Text(), got, ok)
		}
	}
}

// isZero tells whether w is the zero World.
func isZero(t *testing.T, w world.World) {
	t.Helper()
	if w != (world.World{}) {
		of, ok := w.Model()
		t.Errorf("%q of %d, %t, and not the zero World", w.Text(), of, ok)
	}
}

// isNothing tells whether At of the object is the zero State and false.
func isNothing(t *testing.T, w world.World, obj uint8) {
	t.Helper()
	if s, ok := w.At(obj); ok || s != (model.State{}) {
		t.Errorf("At of %d in %s: %q, %t", obj, w.Text(), s.Text(), ok)
	}
}

// TestNew is P14.1: of each model.
func TestNew(t *testing.T) {
	for of := range uint8(4) {
		w := newOf(t, of)
		is(t, w, of, "-", "")
		initial, _ := model.New(of)
		for obj := range uint8(8) {
			if s, ok := w.At(obj); !ok || !model.Same(s, initial) {
				t.Errorf("At of %d in a new world of %d: %s, %t", obj, of, s.Text(), ok)
			}
		}
	}
}

// TestNewOfNone is P14.1: of each number that is no model, transactions among them.
func TestNewOfNone(t *testing.T) {
	for of := 4; of < 256; of++ {
		w, e := world.New(uint8(of))
		if e != api.ErrForeign {
			t.Errorf("New of %d: %d", of, e)
		}
		isZero(t, w)
	}
}

// TestZero is P14.1: of the zero World, methods return false, ErrNil, or nothing, and its text is a minus sign.
func TestZero(t *testing.T) {
	var zero world.World
	if of, ok := zero.Model(); of != 0 || ok {
		t.Errorf("Model: %d, %t", of, ok)
	}
	for obj := range 256 {
		isNothing(t, zero, uint8(obj))
	}
	for obj := range zero.Objects() {
		t.Errorf("Objects: %d", obj)
	}
	if zero.Encode() != "" || zero.Text() != "-" {
		t.Errorf("Encode and Text: % x, %q", zero.Encode(), zero.Text())
	}
	for _, ops := range operations() {
		for _, x := range ops {
			for _, obj := range []uint8{0, 1, 7, 8, 255} {
				refuses(t, zero, 0, on(obj, x), api.ErrNil)
				refuses(t, zero, 15, on(obj, x), api.ErrNil)
			}
		}
	}
	refuses(t, zero, 0, api.Op{}, api.ErrNil)
}

// TestModel is P14.1: of worlds of each model, whatever objects are listed.
func TestModel(t *testing.T) {
	each(t, func(s sample) {
		if of, ok := s.w.Model(); of != s.of || !ok {
			t.Errorf("Model of %s: %d, %t, and not %d", s.text, of, ok, s.of)
		}
	})
}

// TestAt is P14.1: of the objects that there are, those that are listed and the others.
func TestAt(t *testing.T) {
	each(t, func(s sample) {
		for obj := range uint8(8) {
			want, _ := model.New(s.of)
			if n := s.states[obj]; n >= 0 {
				want, _ = model.Decode(s.of, states()[s.of][n].encoding)
			}
			if got, ok := s.w.At(obj); !ok || !model.Same(got, want) {
				t.Errorf("At of %d in %s: %s, %t, and not %s", obj, s.text, got.Text(), ok, want.Text())
			}
		}
	})
}

// TestAtOfNone is P14.1: of the numbers of no object.
func TestAtOfNone(t *testing.T) {
	for of := range uint8(4) {
		for _, w := range []world.World{newOf(t, of), sampleOf(t, of, [8]int{0, 1, 2, 0, 1, 2, 0, 1}).w} {
			for obj := 8; obj < 256; obj++ {
				isNothing(t, w, uint8(obj))
			}
		}
	}
}

// TestObjects is P14.1: of worlds in which no object is listed, one, several and all; a second loop is like the first one.
func TestObjects(t *testing.T) {
	each(t, func(s sample) {
		seq := s.w.Objects()
		for range 2 {
			if l := slices.Collect(seq); !slices.Equal(l, s.listed) {
				t.Errorf("Objects of %s: %v, and not %v", s.text, l, s.listed)
			}
		}
	})
}

// TestObjectsEnds is P14.1: a loop that ends at the first, in the midst, at the last or never is told nothing more.
func TestObjectsEnds(t *testing.T) {
	each(t, func(s sample) {
		for most := range len(s.listed) {
			var l []uint8
			s.w.Objects()(func(obj uint8) bool {
				l = append(l, obj)
				return len(l) <= most
			})
			if !slices.Equal(l, s.listed[:most+1]) {
				t.Errorf("Objects of %s, ended after %d: %v", s.text, most+1, l)
			}
		}
		for obj := range s.w.Objects() {
			if obj != s.listed[0] {
				t.Errorf("Objects of %s: %d is first", s.text, obj)
			}
			break
		}
	})
}

// TestObjectsInObjects is P14.1: loops over the same world do not disturb each other.
func TestObjectsInObjects(t *testing.T) {
	w := made(t, api.Register, on(1, write(5)), on(4, write(5)), on(7, write(5)))
	seq := w.Objects()
	var l []uint8
	for a := range seq {
		for b := range seq {
			if b == 7 {
				break
			}
			l = append(l, a, b)
		}
	}
	if !slices.Equal(l, []uint8{1, 1, 1, 4, 4, 1, 4, 4, 7, 1, 7, 4}) {
		t.Errorf("Objects in Objects: %v", l)
	}
}

// TestObjectsInSteps is P14.1: a loop is over the world that it was asked of, whatever is performed on it meanwhile.
func TestObjectsInSteps(t *testing.T) {
	w := made(t, api.Register, on(1, write(5)), on(4, write(5)))
	seq := w.Objects()
	var l []uint8
	for obj := range seq {
		w = after(t, w, calls(0, on(obj, write(0)), on(obj+1, write(5)))...)
		l = append(l, obj)
	}
	if !slices.Equal(l, []uint8{1, 4}) || !slices.Equal(slices.Collect(seq), []uint8{1, 4}) {
		t.Errorf("Objects while steps are performed: %v", l)
	}
	is(t, w, api.Register, "2=5 5=5", "\x02\x00\x02\x00\x05\x05\x00\x02\x00\x05", 2, 5)
}

// TestListedNoLonger is P14.1: an object is yielded no longer once a step has led its state back to the initial one.
func TestListedNoLonger(t *testing.T) {
	there := [4][]api.Op{{write(5)}, {enq(0), enq(1)}, {put(0, 0), put(7, 5)}, {acquire}}
	back := [4][]api.Op{{cas(5, 0)}, {deq, deq}, {del(7), del(0)}, {release}}
	for of := range uint8(4) {
		for obj := range uint8(8) {
			other := (obj + 3) % 8
			w := newOf(t, of)
			for _, x := range there[of] {
				w = after(t, w, call{2, on(obj, x)}, call{3, on(other, x)})
			}
			both, last := []uint8{min(obj, other), max(obj, other)}, len(back[of])-1
			for _, x := range back[of][:last] {
				w = after(t, w, call{2, on(obj, x)})
			}
			if l := slices.Collect(w.Objects()); !slices.Equal(l, both) {
				t.Errorf("Objects of %s of %d: %v, and not %v", w.Text(), of, l, both)
			}
			w = after(t, w, call{2, on(obj, back[of][last])})
			if l := slices.Collect(w.Objects()); !slices.Equal(l, []uint8{other}) {
				t.Errorf("Objects of %s of %d: %v, and not %d", w.Text(), of, l, other)
			}
			for _, x := range back[of] {
				w = after(t, w, call{3, on(other, x)})
			}
			is(t, w, of, "-", "")
		}
	}
}

// TestExamples are the chapter's examples.
func TestExamples(t *testing.T) {
	w := newOf(t, api.Map)
	is(t, w, api.Map, "-", "")
	w = steps(t, w, 0, on(6, put(3, 5)), done)
	is(t, w, api.Map, "6={3:5}", "\x06\x00\x03\x08\x00\x05", 6)

	w = steps(t, w, 0, on(2, put(0, 1)), done)
	is(t, w, api.Map, "2={0:1} 6={3:5}", "\x02\x00\x03\x01\x00\x01\x06\x00\x03\x08\x00\x05", 2, 6)
	if last := steps(t, w, 0, on(6, del(3)), yes); last.Text() != "2={0:1}" {
		t.Errorf("Del of key 3 on 6: %s", last.Text())
	}

	if _, e := world.New(api.Append); e != api.ErrForeign {
		t.Errorf("New of Append: %d", e)
	}
	refuses(t, w, 0, read, api.ErrForeign)
	refuses(t, w, 0, on(8, put(0, 0)), api.ErrForeign)
	refuses(t, w, 16, put(0, 0), api.ErrArg)
	if _, ok := w.Fits(0, on(2, get(0)), none); ok {
		t.Error("Fits of Get of key 0 on 2, None: true")
	}

	decodes(t, api.Map, "\x06\x00\x03\x08\x00\x05", "6={3:5}", 6)
	decodesNot(t, api.Map, "\x06\x00\x03\x08\x00", api.ErrTorn)
	decodesNot(t, api.Map, "\x08\x00\x00", api.ErrForm)
	decodesNot(t, api.Map, "\x06\x00\x00", api.ErrForm)
}
