package bits_test

import (
	"math"
	"slices"
	"strings"
	"testing"

	"umpire/api"
	"umpire/bits"
)

// wrong are numbers that no set contains.
var wrong = []int{-1, -2, -64, -65, -65535, -65536, 65536, 65537, 65536 + 64, 1 << 31, 1<<32 + 1, math.MaxInt, math.MinInt}

// edges are numbers at the ends of bytes, of words, and of what a set may contain.
var edges = []int{0, 1, 7, 8, 9, 15, 16, 31, 32, 62, 63, 64, 65, 71, 72, 127, 128, 129, 32767, 32768, 65471, 65472, 65527, 65528, 65534, 65535}

// numbers are those of s, as All yields them.
func numbers(s bits.Set) []int { return slices.Collect(s.All()) }

// from is the numbers from a up to b, and not b.
func from(a, b int) []int {
	var l []int
	for n := a; n < b; n++ {
		l = append(l, n)
	}
	return l
}

// keyOf is the key of the set of l, put together from the definition: byte by byte, without a word.
func keyOf(l []int) string {
	var key []byte
	for _, n := range l {
		for len(key) <= n/8 {
			key = append(key, 0)
		}
		key[n/8] |= []byte{1, 2, 4, 8, 16, 32, 64, 128}[n%8]
	}
	return string(key)
}

// shown is l, shortened.
func shown(l []int) []int { return l[:min(len(l), 20)] }

// is tells whether s contains the numbers of want, which ascend, and no others, asked in each way.
func is(t *testing.T, s bits.Set, want ...int) {
	t.Helper()
	l := numbers(s)
	if !slices.Equal(l, want) {
		t.Errorf("All: %v, and not %v", shown(l), shown(want))
	}
	least := -1
	if len(want) > 0 {
		least = want[0]
	}
	if s.Count() != len(want) || s.Least() != least {
		t.Errorf("Count and Least of %v: %d, %d", shown(want), s.Count(), s.Least())
	}
	key := keyOf(want)
	if s.Key() != key {
		t.Errorf("Key of %v: %x, and not %x", shown(want), s.Key(), key)
	}
	if read, e := bits.FromKey(key); e != api.OK || read.Key() != key || !slices.Equal(numbers(read), want) {
		t.Errorf("FromKey of %x: %v, %d", key, shown(numbers(read)), e)
	}
	for _, n := range slices.Concat(edges, want) {
		if _, in := slices.BinarySearch(want, n); s.Has(n) != in {
			t.Errorf("Has of %d in %v: %t", n, shown(want), s.Has(n))
		}
	}
	for _, n := range wrong {
		if s.Has(n) {
			t.Errorf("Has of %d in %v", n, shown(want))
		}
	}
}

// TestZero is P15.1: the zero Set is empty, and as good as one from which all was removed.
func TestZero(t *testing.T) {
	var zero bits.Set
	is(t, zero)
	is(t, zero.Without(0))
	is(t, zero.Union(zero))
	is(t, zero.Down(0))
	is(t, zero.Down(65535))
	is(t, zero.With(65535), 65535)
	is(t, zero.Union(bits.Of(3)), 3)
	is(t, bits.Of(3).Union(zero), 3)
	is(t, bits.Of(65535, 0).Without(0).Without(65535))
	if !zero.Within(zero) || !zero.Within(bits.Of(1)) || bits.Of(1).Within(zero) || bits.Of(65535).Within(zero) {
		t.Error("Within of the zero Set")
	}
	for n, want := range map[int]int{math.MinInt: 0, -1: 0, 0: 0, 1: 1, 64: 64, 65535: 65535, 65536: 65536, math.MaxInt: math.MaxInt} {
		if g := zero.Gap(n); g != want {
			t.Errorf("Gap of %d in the zero Set: %d", n, g)
		}
	}
}

// TestOf is P15.1: lists in any order, with numbers that come twice, and some that no set contains.
func TestOf(t *testing.T) {
	is(t, bits.Of())
	is(t, bits.Of([]int{}...))
	is(t, bits.Of(1, 9, 1, -1), 1, 9)
	is(t, bits.Of(9, 1), 1, 9)
	is(t, bits.Of(65535, 0, 65535, 0, 64), 0, 64, 65535)
	is(t, bits.Of(edges...), edges...)
	is(t, bits.Of(wrong...))
	is(t, bits.Of(from(0, 65536)...), from(0, 65536)...)
	is(t, bits.Of(from(-100, 70000)...), from(0, 65536)...)
	for _, n := range edges {
		is(t, bits.Of(n), n)
		is(t, bits.Of(n, n), n)
		is(t, bits.Of(slices.Concat(wrong, []int{n}, wrong)...), n)
	}
	for _, n := range wrong {
		is(t, bits.Of(n))
		is(t, bits.Of(n, 5), 5)
		is(t, bits.Of(5, n), 5)
	}
}

// TestOfEach is P15.1 and P15.2: of each number that a set may contain.
func TestOfEach(t *testing.T) {
	for n := range 65536 {
		s := bits.Of(n)
		if s.Count() != 1 || s.Least() != n || !s.Has(n) || s.Has(n-1) || s.Has(n+1) || s.Has(n^64) || len(s.Key()) != n/8+1 {
			t.Fatalf("Of %d: %v", n, numbers(s))
		}
	}
}

// TestArguments is P15.1: the list that Of is passed is neither changed nor kept.
func TestArguments(t *testing.T) {
	l := []int{70, 1, -1, 1, 65536}
	s := bits.Of(l...)
	if !slices.Equal(l, []int{70, 1, -1, 1, 65536}) {
		t.Errorf("Of changed its list: %v", l)
	}
	for i := range l {
		l[i] = 9
	}
	is(t, s, 1, 70)
}

// TestExamples is the chapter's examples.
func TestExamples(t *testing.T) {
	s := bits.Of(1, 9, 1, -1)
	if !slices.Equal(numbers(s), []int{1, 9}) || s.Count() != 2 || s.Least() != 1 || s.Key() != "\x02\x02" {
		t.Errorf("Of: %v, %d, %d, %x", numbers(s), s.Count(), s.Least(), s.Key())
	}
	if key := s.With(0).Without(9).Key(); key != "\x03" {
		t.Errorf("With and Without: %x", key)
	}
	for n, want := range map[int]int{0: 2, 3: 4, -5: 2, 70000: 70000} {
		if g := bits.Of(0, 1, 3).Gap(n); g != want {
			t.Errorf("Gap of %d: %d", n, g)
		}
	}
	reads(t, "\x02\x02", 1, 9)
	readsNot(t, "\x02\x00")
	reads(t, "")
	is(t, bits.Of(1, 9).Down(1), 0, 8)
	is(t, bits.Of(1, 9).Down(2), 7)
	if bits.Of().Key() != "" || bits.Of().Least() != -1 || len(bits.Of(65535).Key()) != 8192 {
		t.Errorf("Of nothing, and of 65535: %x, %d, %d", bits.Of().Key(), bits.Of().Least(), len(bits.Of(65535).Key()))
	}
}

// TestLong is P15.3: the key of the greatest number is 8191 bytes of 0 and one of 128.
func TestLong(t *testing.T) {
	if key := bits.Of(65535).Key(); key != strings.Repeat("\x00", 8191)+"\x80" {
		t.Errorf("Key of 65535: %d bytes", len(key))
	}
}
