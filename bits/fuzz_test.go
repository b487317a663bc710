package bits_test

import (
	"testing"

	"umpire/api"
	"umpire/bits"
)

// FuzzBits is P15.1 to P15.6 of all arguments: no call panics, each answers as the second working-out does, and leaves its sets as they are.
func FuzzBits(f *testing.F) {
	for _, key := range []string{"", "\x00", "\x01", "\x02\x02", "\x02\x00", "\x00\x00\x00\x00\x00\x00\x00\x80\x01", "\xff\xff\xff\xff\xff\xff\xff\xff"} {
		for _, n := range append(edges, wrong...) {
			f.Add(key, "\x00\x01", n, 0)
			f.Add("\x01", key, 1, n)
		}
	}
	f.Fuzz(func(t *testing.T, key, other string, n, by int) {
		s, x := readsAsItMust(t, key)
		u, y := readsAsItMust(t, other)
		agrees(t, s.With(n), x.with(n, 1))
		agrees(t, s.Without(n), x.with(n, 0))
		agrees(t, s.Union(u), x.union(y))
		agrees(t, s.Down(by), x.down(by))
		agrees(t, bits.Of(n, by, n), newNumber(n, by))
		if s.Within(u) != x.within(y) || s.Has(n) != (n >= 0 && n < 65536 && x.Bit(n) == 1) {
			t.Errorf("Within and Has of %x: %t, %t", key, s.Within(u), s.Has(n))
		}
		if want := max(n, 0); want > 65535 && s.Gap(n) != want || want <= 65535 && s.Gap(n) != x.gap(n) {
			t.Errorf("Gap from %d in %x: %d", n, key, s.Gap(n))
		}
		agrees(t, s, x)
		agrees(t, u, y)
	})
}

// readsAsItMust returns the set with the key, or the empty one if FromKey must refuse it.
func readsAsItMust(t *testing.T, key string) (bits.Set, number) {
	t.Helper()
	s, e := bits.FromKey(key)
	x := newNumber()
	if len(key) > 8192 || len(key) > 0 && key[len(key)-1] == 0 {
		if e != api.ErrForm {
			t.Errorf("FromKey of %x: %d", key, e)
		}
	} else {
		x = newNumberOf(key)
		if e != api.OK || s.Key() != key {
			t.Errorf("FromKey of %x: %x, %d", key, s.Key(), e)
		}
	}
	agrees(t, s, x)
	return s, x
}
