package world_test

import (
	"testing"

	"umpire/api"
	"umpire/world"
)

// TestSame is P14.3: of worlds of one model that different steps made.
func TestSame(t *testing.T) {
	for _, c := range []struct {
		of   uint8
		a, b []api.Op
		want bool
	}{
		{api.Register, []api.Op{on(2, write(5)), on(6, write(7))}, []api.Op{on(6, write(7)), on(2, write(9)), on(2, cas(9, 5))}, true},
		{api.Register, []api.Op{on(2, write(5)), on(2, write(0))}, nil, true},
		{api.Register, []api.Op{on(2, write(5))}, []api.Op{on(3, write(5))}, false},
		{api.Register, []api.Op{on(0, write(1)), on(1, write(2))}, []api.Op{on(0, write(2)), on(1, write(1))}, false},
		{api.Register, []api.Op{on(7, write(5))}, []api.Op{on(7, write(261))}, false},
		{api.Register, []api.Op{on(0, write(5)), on(7, write(5))}, []api.Op{on(0, write(5))}, false},
		{api.Queue, []api.Op{on(2, enq(1)), on(2, enq(2)), on(2, deq)}, []api.Op{on(2, enq(2)), on(7, deq)}, true},
		{api.Queue, []api.Op{on(5, enq(1)), on(5, deq)}, nil, true},
		{api.Queue, []api.Op{on(5, enq(1)), on(5, enq(2))}, []api.Op{on(5, enq(2)), on(5, enq(1))}, false},
		{api.Queue, []api.Op{on(5, enq(0))}, nil, false},
		{api.Map, []api.Op{on(1, put(3, 5)), on(1, put(1, 2))}, []api.Op{on(1, put(1, 2)), on(1, put(3, 5))}, true},
		{api.Map, []api.Op{on(1, put(3, 5)), on(1, del(3))}, []api.Op{on(4, put(3, 5)), on(4, del(3))}, true},
		{api.Map, []api.Op{on(1, put(3, 0))}, nil, false},
		{api.Map, []api.Op{on(1, put(3, 5))}, []api.Op{on(3, put(1, 5))}, false},
		{api.Lock, []api.Op{on(0, acquire), on(7, acquire)}, []api.Op{on(7, acquire), on(0, acquire)}, true},
		{api.Lock, []api.Op{on(0, acquire), on(0, release)}, []api.Op{on(3, release)}, true},
		{api.Lock, []api.Op{on(0, acquire)}, []api.Op{on(1, acquire)}, false},
	} {
		a, b := made(t, c.of, c.a...), made(t, c.of, c.b...)
		if world.Same(a, b) != c.want || world.Same(b, a) != c.want {
			t.Errorf("Same of %s and %s: %t, %t, and not %t", a.Text(), b.Text(), world.Same(a, b), world.Same(b, a), c.want)
		}
		if bytes, text := a.Encode() == b.Encode(), a.Text() == b.Text(); bytes != c.want || text != c.want {
			t.Errorf("encodings and texts of %s and %s are equal: %t, %t, and not %t", a.Text(), b.Text(), bytes, text, c.want)
		}
	}
}

// TestSameOfOneState is P14.3: of worlds that differ in the state of one object alone, whichever it is.
func TestSameOfOneState(t *testing.T) {
	for of := range uint8(4) {
		for obj := range 8 {
			for other := range 3 {
				places := [8]int{0, 1, 2, 0, 1, 2, 0, 1}
				a := sampleOf(t, of, places).w
				want := places[obj] == other
				places[obj] = other
				if b := sampleOf(t, of, places).w; world.Same(a, b) != want || world.Same(b, a) != want {
					t.Errorf("Same of %s and %s: %t", a.Text(), b.Text(), !want)
				}
				places[obj] = -1
				if b := sampleOf(t, of, places).w; world.Same(a, b) || world.Same(b, a) {
					t.Errorf("Same of %s and %s: true", a.Text(), b.Text())
				}
			}
		}
	}
}

// TestSameOfUnlike is P14.3: of each world with each other one, of the same model and of each other one.
func TestSameOfUnlike(t *testing.T) {
	all := some(t)
	for i, a := range all {
		for j, b := range all {
			if world.Same(a.w, b.w) != (i == j) {
				t.Errorf("Same of %s of %d and %s of %d: %t", a.text, a.of, b.text, b.of, i != j)
			}
		}
	}
}

// TestSameOfOtherModels is P14.3: worlds of unlike models are not the same where their encodings are equal.
func TestSameOfOtherModels(t *testing.T) {
	for of := range uint8(4) {
		for other := range uint8(4) {
			both := 0
			for _, encoding := range []string{"", "\x02\x00\x02\x00\x05", "\x07\x00\x02\xff\xff", "\x00\x00\x02\x00\x05\x03\x00\x02\x01\x02"} {
				a, e := world.Decode(of, encoding)
				b, f := world.Decode(other, encoding)
				if e != api.OK || f != api.OK {
					continue
				}
				both++
				if a.Encode() != b.Encode() || world.Same(a, b) != (of == other) {
					t.Errorf("Same of % x of %d and of %d: %t", encoding, of, other, world.Same(a, b))
				}
			}
			if least := []int{4, 4, 1, 1}[max(of, other)]; both < least {
				t.Errorf("only %d encodings are of %d and of %d", both, of, other)
			}
		}
	}
}

// TestSameOfZero is P14.3: the zero World is the same as itself, and as no world of a model, not even one whose encoding is empty, too.
func TestSameOfZero(t *testing.T) {
	var zero world.World
	if failed, _ := world.New(api.Append); !world.Same(zero, zero) || !world.Same(zero, failed) || !world.Same(failed, zero) {
		t.Error("Same of the zero World with itself: false")
	}
	for of := range uint8(4) {
		if w := newOf(t, of); world.Same(zero, w) || world.Same(w, zero) {
			t.Errorf("Same of the zero World with a new one of %d: true", of)
		}
	}
	for _, s := range some(t) {
		if world.Same(zero, s.w) || world.Same(s.w, zero) {
			t.Errorf("Same of the zero World with %s: true", s.text)
		}
	}
}
