package bits_test

import (
	"strings"
	"testing"

	"umpire/api"
	"umpire/bits"
)

// reads tells whether FromKey returns the set of those numbers, with that key.
func reads(t *testing.T, key string, want ...int) {
	t.Helper()
	s, e := bits.FromKey(key)
	if e != api.OK || s.Key() != key {
		t.Errorf("FromKey of %x: %x, %d", key, s.Key(), e)
	}
	is(t, s, want...)
}

// readsNot tells whether FromKey returns ErrForm, and the empty set.
func readsNot(t *testing.T, key string) {
	t.Helper()
	s, e := bits.FromKey(key)
	if e != api.ErrForm {
		t.Errorf("FromKey of %d bytes: %d", len(key), e)
	}
	is(t, s)
}

// TestKey is P15.3: each bit of a byte, of the first group and of others, and groups without numbers between.
func TestKey(t *testing.T) {
	for n := range 8 {
		one := string([]byte{1 << n})
		reads(t, one, n)
		reads(t, "\x00"+one, 8+n)
		reads(t, strings.Repeat("\x00", 7)+one, 56+n)
		reads(t, strings.Repeat("\x00", 8)+one, 64+n)
		reads(t, strings.Repeat("\x00", 8191)+one, 65528+n)
		reads(t, one+strings.Repeat("\x00", 30)+one, n, 248+n)
	}
	reads(t, "\xff", from(0, 8)...)
	reads(t, "\x00\xff", from(8, 16)...)
	reads(t, "\x01\x80", 0, 15)
	reads(t, "\x80\x01", 7, 8)
	reads(t, "\x01\x02\x03", 0, 9, 16, 17)
	reads(t, strings.Repeat("\xff", 8192), from(0, 65536)...)
}

// TestKeyOfLength is P15.3: of each number of bytes, up to some, and about the greatest.
func TestKeyOfLength(t *testing.T) {
	for n := range 8200 {
		if n > 70 && n < 8185 {
			continue
		}
		zeros := strings.Repeat("\x00", n)
		if n < 8192 {
			reads(t, zeros+"\x81", n*8, n*8+7)
		} else {
			readsNot(t, zeros+"\x81")
		}
		if n > 0 {
			readsNot(t, zeros)
			readsNot(t, strings.Repeat("\xff", n)+"\x00")
		}
	}
	reads(t, "")
	readsNot(t, strings.Repeat("\x01", 8193))
	readsNot(t, strings.Repeat("\x01", 8192)+"\x00")
	readsNot(t, strings.Repeat("\x00", 1<<20))
	readsNot(t, strings.Repeat("\xff", 1<<20))
}

// TestKeys is P15.3 and P15.4: of all keys of two bytes, and unlike ones are of unlike sets.
func TestKeys(t *testing.T) {
	for a := range 256 {
		for b := range 256 {
			key := string([]byte{byte(a), byte(b)})
			if b == 0 {
				readsNot(t, key)
				continue
			}
			var want []int
			for n := range 16 {
				if (b<<8|a)>>n&1 == 1 {
					want = append(want, n)
				}
			}
			reads(t, key, want...)
		}
	}
}

// TestSameKey is P15.4: sets with the same numbers have the same key, whatever was added and removed before, also greater numbers.
func TestSameKey(t *testing.T) {
	for _, l := range lists() {
		s := bits.Of(l...)
		for _, n := range edges {
			if s.Has(n) {
				continue
			}
			for _, u := range []bits.Set{s.With(n).Without(n), s.Union(bits.Of(n)).Without(n), bits.Of(append([]int{n}, l...)...).Without(n)} {
				if u.Key() != s.Key() || !u.Within(s) || !s.Within(u) {
					t.Errorf("%v with and without %d: %x", shown(l), n, u.Key())
				}
			}
		}
	}
}
