package result_test

import (
	"slices"
	"testing"

	"umpire/api"
	"umpire/result"
)

// listed are the kinds of results of f, by the chapter's list.
func listed(f int) []uint8 {
	return map[int][]uint8{
		api.Read: {api.Value}, api.Write: {api.Done}, api.Enq: {api.Done}, api.Put: {api.Done},
		api.Deq: {api.Value, api.None}, api.Get: {api.Value, api.None},
		api.CAS: {api.Yes, api.No}, api.Del: {api.Yes, api.No}, api.Swap: {api.Yes, api.No}, api.Acquire: {api.Yes, api.No}, api.Release: {api.Yes, api.No},
	}[f]
}

// TestKinds is P3.3 of all F, those of no operation among them: a second loop is like the first one.
func TestKinds(t *testing.T) {
	for f := range 256 {
		seq := result.Kinds(uint8(f))
		for range 2 {
			if l := slices.Collect(seq); !slices.Equal(l, listed(f)) {
				t.Errorf("Kinds(%d): %v, and not %v", f, l, listed(f))
			}
		}
	}
}

// TestKindsEnds is P3.3: a loop that ends early is told nothing more.
func TestKindsEnds(t *testing.T) {
	for f := range 256 {
		seq, want := result.Kinds(uint8(f)), listed(f)
		for most := 1; most <= len(want)+1; most++ {
			var l []uint8
			seq(func(k uint8) bool {
				l = append(l, k)
				return len(l) < most
			})
			if !slices.Equal(l, want[:min(most, len(want))]) {
				t.Errorf("Kinds(%d), ended after %d: %v of %v", f, most, l, want)
			}
		}
		for k := range seq {
			if k != want[0] {
				t.Errorf("Kinds(%d): %d is first", f, k)
			}
			break
		}
	}
}

// TestKindsInKinds is P3.3: loops over the same kinds do not disturb each other.
func TestKindsInKinds(t *testing.T) {
	seq := result.Kinds(api.Get)
	var l []uint8
	for a := range seq {
		for b := range seq {
			l = append(l, a, b)
		}
	}
	if want := []uint8{api.Value, api.Value, api.Value, api.None, api.None, api.Value, api.None, api.None}; !slices.Equal(l, want) {
		t.Errorf("%v, and not %v", l, want)
	}
}

// TestMay is P3.3 of all F with results of all kinds, valid or not: what is not valid comes before what is foreign.
func TestMay(t *testing.T) {
	for f := range 256 {
		for _, k := range kinds() {
			want := api.ErrForeign
			if slices.Contains(listed(f), k) {
				want = api.OK
			}
			for _, v := range numbers() {
				if k != api.Value && v != 0 {
					continue
				}
				if e := result.May(uint8(f), api.Result{K: k, V: v}); e != want {
					t.Errorf("May(%d, %d with V %d): %d, and not %d", f, k, v, e, want)
				}
			}
		}
		for _, r := range invalid() {
			if e := result.May(uint8(f), r); e != api.ErrForm {
				t.Errorf("May(%d, %v): %d", f, r, e)
			}
		}
	}
}
