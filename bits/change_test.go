package bits_test

import (
	"slices"
	"testing"

	"umpire/bits"
)

// plus is l, which ascends, with n.
func plus(l []int, n int) []int {
	at, in := slices.BinarySearch(l, n)
	if in || n < 0 || n > 65535 {
		return slices.Clone(l)
	}
	return slices.Insert(slices.Clone(l), at, n)
}

// minus is l without n.
func minus(l []int, n int) []int {
	return slices.DeleteFunc(slices.Clone(l), func(m int) bool { return m == n })
}

// lists are the numbers of some sets, ascending: none, one, a few far from each other, and many without a gap.
func lists() [][]int {
	l := [][]int{nil, {0}, {63}, {64}, {65535}, {0, 65535}, {1, 9}, {0, 1, 3}, {5, 64, 128, 200}, edges, from(0, 64), from(0, 65), from(60, 70), from(64, 128), from(1, 300), from(65400, 65536)}
	return append(l, plus(from(0, 200), 65535), minus(from(0, 130), 64))
}

// TestWith is P15.1 and P15.5: each number at an edge is added to each set, which is left as it is.
func TestWith(t *testing.T) {
	for _, l := range lists() {
		s := bits.Of(l...)
		for _, n := range slices.Concat(edges, wrong, l[:min(len(l), 3)]) {
			is(t, s.With(n), plus(l, n)...)
			is(t, s.With(n).With(n), plus(l, n)...)
		}
		is(t, s, l...)
	}
}

// TestWithout is P15.1 and P15.5: each number at an edge is removed from each set, which is left as it is.
func TestWithout(t *testing.T) {
	for _, l := range lists() {
		s := bits.Of(l...)
		for _, n := range slices.Concat(edges, wrong, l[:min(len(l), 3)]) {
			is(t, s.Without(n), minus(l, n)...)
			is(t, s.Without(n).Without(n), minus(l, n)...)
		}
		is(t, s, l...)
	}
}

// TestWithAndWithout is P15.5: what is added and removed again, or removed and added again, makes no difference.
func TestWithAndWithout(t *testing.T) {
	for _, l := range lists() {
		s := bits.Of(l...)
		for _, n := range edges {
			if slices.Contains(l, n) {
				is(t, s.Without(n).With(n), l...)
			} else {
				is(t, s.With(n).Without(n), l...)
			}
		}
	}
}

// TestOneByOne is P15.1 and P15.4: a set that is filled, and emptied, number by number, in two orders.
func TestOneByOne(t *testing.T) {
	var up, down bits.Set
	for i := range edges {
		up, down = up.With(edges[i]), down.With(edges[len(edges)-1-i])
		is(t, up, edges[:i+1]...)
		is(t, down, edges[len(edges)-1-i:]...)
	}
	for i := range edges {
		up, down = up.Without(edges[len(edges)-1-i]), down.Without(edges[i])
		is(t, up, edges[:len(edges)-1-i]...)
		is(t, down, edges[i+1:]...)
	}
}

// TestUnionWithin is P15.1 and P15.5: of each two sets.
func TestUnionWithin(t *testing.T) {
	for _, a := range lists() {
		for _, b := range lists() {
			both := slices.Compact(slices.Sorted(slices.Values(slices.Concat(a, b))))
			s, u := bits.Of(a...), bits.Of(b...)
			is(t, s.Union(u), both...)
			if in := len(both) == len(b); s.Within(u) != in || (s.Union(u).Key() == u.Key()) != in {
				t.Errorf("Within of %v and %v: %t", shown(a), shown(b), s.Within(u))
			}
			if !s.Within(s.Union(u)) || !u.Within(s.Union(u)) {
				t.Errorf("%v and %v are not within their Union", shown(a), shown(b))
			}
			is(t, s, a...)
			is(t, u, b...)
		}
	}
}

// TestWithinEach is P15.1: of sets that differ by one number, at each edge.
func TestWithinEach(t *testing.T) {
	all := bits.Of(edges...)
	for _, n := range edges {
		less := all.Without(n)
		if !less.Within(all) || all.Within(less) || bits.Of(n).Within(less) || !bits.Of(n).Within(all) || !less.Within(less) {
			t.Errorf("Within of all edges, and of all but %d", n)
		}
	}
}

// TestBranches is P15.6: of two sets that are made from one, neither shows in the other one, nor in that one, whether there is room for more or not.
func TestBranches(t *testing.T) {
	for _, l := range lists() {
		s := bits.Of(l...)
		for _, n := range []int{0, 2, 66, 130, 300, 65000} {
			a, b := s.With(n), s.With(n+1)
			c, d := s.Union(bits.Of(n)), s.Down(1).With(n)
			a.Without(n)
			a.With(n + 2)
			is(t, a, plus(l, n)...)
			is(t, b, plus(l, n+1)...)
			is(t, c, plus(l, n)...)
			is(t, d, plus(lower(l, 1), n)...)
			is(t, s, l...)
		}
		u := s.With(5)
		w := u.Without(5)
		w.With(6)
		is(t, u, plus(l, 5)...)
		is(t, w, minus(l, 5)...)
	}
}
