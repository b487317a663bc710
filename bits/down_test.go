package bits_test

import (
	"math"
	"slices"
	"testing"

	"umpire/bits"
)

// lower is what Down must return, found number by number.
func lower(l []int, by int) []int {
	var down []int
	for _, n := range l {
		if by = max(by, 0); n >= by {
			down = append(down, n-by)
		}
	}
	return down
}

// shifts are numbers by which sets are taken down.
var shifts = slices.Concat(edges, wrong, from(2, 6), from(120, 136), []int{1000, 40000})

// TestDown is P15.3: of each set by each number, also by one below 0, and by one above all; the set is left as it is.
func TestDown(t *testing.T) {
	for _, l := range lists() {
		s := bits.Of(l...)
		for _, by := range shifts {
			is(t, s.Down(by), lower(l, by)...)
		}
		is(t, s, l...)
	}
}

// TestDownEach is P15.3: of the greatest number, and of all, by each number.
func TestDownEach(t *testing.T) {
	s := bits.Of(0, 65535)
	for by := 1; by < 65536; by++ {
		if d := s.Down(by); d.Count() != 1 || d.Least() != 65535-by || len(d.Key()) != (65535-by)/8+1 {
			t.Fatalf("Down by %d of 0 and 65535: %v", by, numbers(d))
		}
	}
	all := bits.Of(from(0, 65536)...)
	for _, by := range append(edges, 65536) {
		if d := all.Down(by); d.Count() != 65536-by || d.Gap(0) != 65536-by || d.With(70).Key() != bits.Of(from(0, 65536-by)...).With(70).Key() {
			t.Errorf("Down by %d of all: %d numbers", by, d.Count())
		}
	}
}

// TestDownTwice is P15.6: Down by one number, and then by another one, is Down by both together.
func TestDownTwice(t *testing.T) {
	for _, l := range lists() {
		s := bits.Of(l...)
		for _, a := range shifts {
			for _, b := range shifts {
				sum := max(a, 0) + max(b, 0)
				if sum < 0 {
					sum = math.MaxInt
				}
				if got, want := s.Down(a).Down(b).Key(), s.Down(sum).Key(); got != want {
					t.Errorf("Down of %v by %d and by %d: %x, and not %x", shown(l), a, b, got, want)
				}
			}
		}
	}
}
