package bits_test

import (
	"math/big"
	"slices"
	"testing"

	"umpire/api"
	"umpire/bits"
)

// number is a second working-out of the definitions: one great number whose bits are what a set contains.
type number struct{ *big.Int }

func newNumber(l ...int) number {
	x := number{new(big.Int)}
	for _, n := range l {
		x = x.with(n, 1)
	}
	return x
}

// newNumberOf is the number whose bytes are those of key, the lowest one first.
func newNumberOf(key string) number {
	b := []byte(key)
	slices.Reverse(b)
	return number{new(big.Int).SetBytes(b)}
}

// with is x in which the bit n is b.
func (x number) with(n int, b uint) number {
	if n < 0 || n > 65535 {
		return x
	}
	return number{new(big.Int).SetBit(x.Int, n, b)}
}

func (x number) union(y number) number { return number{new(big.Int).Or(x.Int, y.Int)} }

func (x number) down(by int) number { return number{new(big.Int).Rsh(x.Int, uint(max(by, 0)))} }

func (x number) within(y number) bool { return new(big.Int).AndNot(x.Int, y.Int).Sign() == 0 }

// key is x, with its lowest byte first.
func (x number) key() string {
	b := x.Bytes()
	slices.Reverse(b)
	return string(b)
}

// least is how often x can be halved.
func (x number) least() int {
	if x.Sign() == 0 {
		return -1
	}
	return int(x.TrailingZeroBits())
}

func (x number) gap(from int) int {
	n := max(from, 0)
	for x.Bit(n) == 1 {
		n++
	}
	return n
}

// numbers is the bits of x, from the highest one on, turned round.
func (x number) numbers() []int {
	var l []int
	for n := x.BitLen() - 1; n >= 0; n-- {
		if x.Bit(n) == 1 {
			l = append(l, n)
		}
	}
	slices.Reverse(l)
	return l
}

// agrees tells whether s and x contain the same numbers, by what is told of them.
func agrees(t *testing.T, s bits.Set, x number) {
	t.Helper()
	l := x.numbers()
	if s.Key() != x.key() || s.Count() != len(l) || s.Least() != x.least() || !slices.Equal(numbers(s), l) {
		t.Fatalf("%v, and not %v", shown(numbers(s)), shown(l))
	}
	if read, e := bits.FromKey(x.key()); e != api.OK || read.Key() != x.key() || !read.Within(s) || !s.Within(read) {
		t.Fatalf("FromKey of %x: %x, %d", x.key(), read.Key(), e)
	}
}

// few are the numbers of which all sets are tried.
var few = []int{0, 1, 7, 8, 63, 64, 127, 128}

// subset is the elements of few at the bits of i.
func subset(i int) []int {
	var l []int
	for k, n := range few {
		if i>>k&1 == 1 {
			l = append(l, n)
		}
	}
	return l
}

// TestDefinition is P15.1 to P15.6: of all sets of a few numbers, each alone.
func TestDefinition(t *testing.T) {
	for i := range 256 {
		s, x := bits.Of(subset(i)...), newNumber(subset(i)...)
		agrees(t, s, x)
		for n := -2; n < 200; n++ {
			if n >= 0 && s.Has(n) != (x.Bit(n) == 1) || s.Gap(n) != x.gap(n) {
				t.Errorf("Has and Gap of %d in %v: %t, %d", n, subset(i), s.Has(n), s.Gap(n))
			}
			agrees(t, s.With(n), x.with(n, 1))
			agrees(t, s.Without(n), x.with(n, 0))
			agrees(t, s.Down(n), x.down(n))
		}
		agrees(t, s, x)
	}
}

// TestDefinitionOfTwo is P15.1, P15.4 and P15.5: of each two sets of a few numbers, they have one key if they are the same, Union is commutative and idempotent, and Within is told by it.
func TestDefinitionOfTwo(t *testing.T) {
	for i := range 256 {
		for j := range 256 {
			s, u := bits.Of(subset(i)...), bits.Of(subset(j)...)
			both := s.Union(u)
			x, y := newNumber(subset(i)...), newNumber(subset(j)...)
			agrees(t, both, x.union(y))
			if (s.Key() == u.Key()) != (i == j) || both.Key() != u.Union(s).Key() || both.Union(u).Key() != both.Key() || both.Union(both).Key() != both.Key() {
				t.Errorf("%v and %v: %x, %x", subset(i), subset(j), s.Key(), u.Key())
			}
			if in := s.Within(u); in != x.within(y) || in != (i&^j == 0) || in != (both.Key() == u.Key()) {
				t.Errorf("Within of %v and %v: %t", subset(i), subset(j), in)
			}
		}
	}
}

// TestUnionOfThree is P15.5: Union is associative.
func TestUnionOfThree(t *testing.T) {
	for _, a := range lists() {
		for _, b := range lists() {
			for _, c := range lists() {
				s, u, w := bits.Of(a...), bits.Of(b...), bits.Of(c...)
				if s.Union(u).Union(w).Key() != s.Union(u.Union(w)).Key() {
					t.Errorf("Union of %v, %v and %v", shown(a), shown(b), shown(c))
				}
			}
		}
	}
}

// rule yields numbers below a bound, one after the other, by a rule that is the same each time.
type rule uint64

func (r *rule) below(n int) int {
	*r = *r*6364136223846793005 + 1442695040888963407
	return int(uint64(*r)>>33) % n
}

// TestLongRun is P15.1 to P15.6: long sequences of calls, each on one of some sets, of which all others stay as they are.
func TestLongRun(t *testing.T) {
	r := rule(1)
	for _, below := range []int{16, 70, 200, 1000, 65536} {
		var sets [6]bits.Set
		var xs [6]number
		for i := range xs {
			xs[i] = newNumber()
		}
		for range 2000 {
			i, j, k, n := r.below(6), r.below(6), r.below(6), r.below(below+2)-1
			switch r.below(7) {
			case 0, 1, 2:
				sets[k], xs[k] = sets[i].With(n), xs[i].with(n, 1)
			case 3:
				sets[k], xs[k] = sets[i].Without(n), xs[i].with(n, 0)
			case 4:
				n = max(sets[i].Least(), 0)
				sets[k], xs[k] = sets[i].Without(n), xs[i].with(n, 0)
			case 5:
				sets[k], xs[k] = sets[i].Union(sets[j]), xs[i].union(xs[j])
			case 6:
				n = r.below(below/8 + 1)
				sets[k], xs[k] = sets[i].Down(n), xs[i].down(n)
			}
			for i := range sets {
				if sets[i].Key() != xs[i].key() {
					t.Fatalf("%x, and not %x", sets[i].Key(), xs[i].key())
				}
			}
			agrees(t, sets[k], xs[k])
			if sets[i].Within(sets[j]) != xs[i].within(xs[j]) || sets[i].Gap(n) != xs[i].gap(n) {
				t.Fatalf("Within and Gap of %v", numbers(sets[i]))
			}
		}
	}
}
