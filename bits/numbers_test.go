package bits_test

import (
	"math"
	"slices"
	"testing"

	"umpire/bits"
)

// TestCount is P15.2: of sets from one number to all.
func TestCount(t *testing.T) {
	var s bits.Set
	for n := range 300 {
		s = s.With(n * 218)
		if s.Count() != n+1 {
			t.Fatalf("Count of %d numbers: %d", n+1, s.Count())
		}
	}
	all := bits.Of(from(0, 65536)...)
	if all.Count() != 65536 || all.Without(64).Count() != 65535 || all.With(64).Count() != 65536 {
		t.Errorf("Count of all: %d", all.Count())
	}
}

// TestAllEnds is P15.2: a loop that ends at each of its numbers; the next one begins at the first again.
func TestAllEnds(t *testing.T) {
	s := bits.Of(edges...)
	all := s.All()
	for stop := range edges {
		var got []int
		for n := range all {
			got = append(got, n)
			if len(got) == stop+1 {
				break
			}
		}
		if !slices.Equal(got, edges[:stop+1]) {
			t.Errorf("All, ended after %d: %v", stop+1, got)
		}
	}
	if !slices.Equal(slices.Collect(all), edges) {
		t.Error("All after loops that ended early")
	}
	for n := range (bits.Set{}).All() {
		t.Errorf("All of the zero Set: %d", n)
	}
}

// TestAllWithin is P15.2 and P15.6: in a loop over a set others are made from it, and looped over.
func TestAllWithin(t *testing.T) {
	s := bits.Of(edges...)
	var got []int
	for n := range s.All() {
		got = append(got, n)
		s.Without(n).With(n + 1).Down(1).Union(s)
		if !slices.Equal(numbers(s), edges) {
			t.Errorf("All in a loop over it: %v", numbers(s))
		}
	}
	if !slices.Equal(got, edges) {
		t.Errorf("All: %v", got)
	}
	u := bits.Of(1, 70)
	all := u.All()
	u = u.With(2)
	if l := slices.Collect(all); !slices.Equal(l, []int{1, 70}) {
		t.Errorf("All of a set, after another one was put in its variable: %v", l)
	}
}

// TestAllReturns is P15.2: once the loop has ended, no more is yielded.
func TestAllReturns(t *testing.T) {
	for stop := range edges {
		n := 0
		bits.Of(edges...).All()(func(int) bool { n++; return n <= stop })
		if n != stop+1 {
			t.Errorf("All yielded %d numbers, and not %d", n, stop+1)
		}
	}
}

// TestLeast is P15.2: while the least one is removed again and again.
func TestLeast(t *testing.T) {
	s := bits.Of(edges...)
	for _, n := range edges {
		if s.Least() != n {
			t.Errorf("Least: %d, and not %d", s.Least(), n)
		}
		s = s.Without(n)
	}
	if s.Least() != -1 {
		t.Errorf("Least of what is left: %d", s.Least())
	}
}

// gap is what Gap must return, found number by number.
func gap(l []int, from int) int {
	from = max(from, 0)
	for slices.Contains(l, from) {
		from++
	}
	return from
}

// TestGap is P15.2: from each edge, in each set, and from where there can be none.
func TestGap(t *testing.T) {
	for _, l := range lists() {
		s := bits.Of(l...)
		for _, n := range slices.Concat(edges, wrong, from(55, 75), from(125, 131), from(195, 205)) {
			if got, want := s.Gap(n), gap(l, n); got != want {
				t.Errorf("Gap from %d in %v: %d, and not %d", n, shown(l), got, want)
			}
		}
	}
}

// TestGapOfAll is P15.2: of the set of all numbers, and of all but one.
func TestGapOfAll(t *testing.T) {
	all := bits.Of(from(0, 65536)...)
	for n, want := range map[int]int{math.MinInt: 65536, -1: 65536, 0: 65536, 63: 65536, 64: 65536, 65535: 65536, 65536: 65536, 65537: 65537, 70000: 70000, math.MaxInt: math.MaxInt} {
		if g := all.Gap(n); g != want {
			t.Errorf("Gap from %d in all: %d, and not %d", n, g, want)
		}
	}
	for _, n := range edges {
		s := all.Without(n)
		if g := s.Gap(0); g != n {
			t.Errorf("Gap from 0 in all but %d: %d", n, g)
		}
		if g := s.Gap(n); g != n {
			t.Errorf("Gap from %d in all but %d: %d", n, n, g)
		}
		if g := s.Gap(n + 1); g != max(65536, n+1) {
			t.Errorf("Gap from %d in all but %d: %d", n+1, n, g)
		}
	}
}
