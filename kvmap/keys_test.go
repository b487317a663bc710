package kvmap_test

import (
	"slices"
	"testing"

	"umpire/api"
	"umpire/kvmap"
)

// only tells whether Only of s and that key is that state, which may be, and leaves the state that was passed.
func only(t *testing.T, s kvmap.State, key uint8, want kvmap.State) {
	t.Helper()
	was := s
	if got := kvmap.Only(s, key); got != want || kvmap.Check(got) != api.OK || s != was {
		t.Errorf("Only of %v and %d: %v, and not %v; it left %v", was, key, got, want, s)
	}
}

// TestOnly is P11.3: of states with and without the key, for each key.
func TestOnly(t *testing.T) {
	places(func(s kvmap.State, key uint8) {
		only(t, without(s, key), key, kvmap.State{})
		for _, v := range edges() {
			only(t, with(s, key, v), key, with(kvmap.State{}, key, v))
		}
	})
	all := kvmap.State{Has: 255, V: [8]uint16{1, 0, 255, 256, 5, 65535, 7, 258}}
	only(t, all, 0, kvmap.State{Has: 1, V: [8]uint16{1}})
	only(t, all, 1, kvmap.State{Has: 2})
	only(t, all, 5, kvmap.State{Has: 32, V: [8]uint16{5: 65535}})
	only(t, all, 7, kvmap.State{Has: 128, V: [8]uint16{7: 258}})
}

// TestOnlyAbove is P11.3: no state has a key above 7.
func TestOnlyAbove(t *testing.T) {
	for _, s := range append(examples(), broken()...) {
		for key := 8; key < 256; key++ {
			only(t, s, uint8(key), kvmap.New())
		}
	}
}

// TestOnlyOfBroken is P11.3 of states that may not be: what Only returns may be.
func TestOnlyOfBroken(t *testing.T) {
	for _, s := range broken() {
		for key := range uint8(8) {
			want := kvmap.New()
			if s.Has&(1<<key) != 0 {
				want = with(want, key, s.V[key])
			}
			only(t, s, key, want)
		}
	}
}

// ofKey are those of ops that are at the key, and those of results, which are theirs.
func ofKey(key uint8, ops []api.Op, results []api.Result) ([]api.Op, []api.Result) {
	var own []api.Op
	var ownResults []api.Result
	for i, op := range ops {
		if op.Key == key {
			own, ownResults = append(own, op), append(ownResults, results[i])
		}
	}
	return own, ownResults
}

// independent tells whether what ops do at each key is the same without those at other keys, also from that key of the state alone.
func independent(t *testing.T, s kvmap.State, ops []api.Op) {
	t.Helper()
	end, results, _ := kvmap.Run(s, ops)
	for key := range uint8(8) {
		own, want := ofKey(key, ops, results)
		alone, l, e := kvmap.Run(s, own)
		if !slices.Equal(l, want) || e != api.OK || kvmap.Only(alone, key) != kvmap.Only(end, key) {
			t.Fatalf("Run of %v from %v: %v, %v, %d, but of %v: %v, %v", own, s, alone, l, e, ops, end, want)
		}
		runs(t, kvmap.Only(s, key), own, kvmap.Only(end, key), want, api.OK)
		for other := range uint8(8) {
			if other != key && kvmap.Only(alone, other) != kvmap.Only(s, other) {
				t.Fatalf("Run of %v from %v: %v", own, s, alone)
			}
		}
	}
}

// TestShortAreIndependent is P11.4: over all lists of up to four operations at three keys.
func TestShortAreIndependent(t *testing.T) {
	some := []api.Op{put(0, 5), del(0), swap(0, 5, 6), put(1, 5), del(1), swap(1, 6, 5), get(1), put(7, 6), del(7), swap(7, 6, 5)}
	for _, s := range []kvmap.State{{}, {Has: 131, V: [8]uint16{0: 5, 1: 6, 7: 6}}} {
		for n := range 1 + 10 + 100 + 1000 + 10000 {
			independent(t, s, numbered(some, n))
		}
	}
}

// TestOthersStay is P11.4: a step at a key leaves all other keys as they are.
func TestOthersStay(t *testing.T) {
	places(func(s kvmap.State, key uint8) {
		for _, op := range []api.Op{get(key), put(key, 5), put(key, 0), del(key), swap(key, s.V[key], 9), swap(key, 0, 0)} {
			to, _, _ := kvmap.Step(s, op)
			for other := range uint8(8) {
				if other != key && (to.V[other] != s.V[other] || (to.Has^s.Has)&(1<<other) != 0) {
					t.Errorf("Step of %v in %v: %v", op, s, to)
				}
			}
		}
	})
}
