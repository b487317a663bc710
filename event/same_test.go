package event_test

import (
	"slices"
	"testing"

	"umpire/api"
	"umpire/event"
)

// same tells whether Same of a and b is that, either way round.
func same(t *testing.T, a, b api.Event, want bool) {
	t.Helper()
	if event.Same(a, b) != want || event.Same(b, a) != want {
		t.Fatalf("Same of %.200s and %.200s: %t, %t", shown(a), shown(b), event.Same(a, b), event.Same(b, a))
	}
}

// TestSame is P5.1 of pairs of events, valid or not.
func TestSame(t *testing.T) {
	l := slices.Concat(few(), withMore(), ofWrongConfig(), ofWrongClient(), begins()[:200], commits(), returns(), []api.Event{{}, full(0), full(8), full(255)})
	var texts []string
	for _, x := range l {
		texts = append(texts, shown(x))
	}
	for i, a := range l {
		for j, b := range l[:i+1] {
			same(t, a, b, texts[i] == texts[j])
		}
	}
}

// TestSameEach is P5.1: each field counts, whatever the kind needs.
func TestSameEach(t *testing.T) {
	for kind := range 256 {
		for _, x := range []api.Event{{Kind: uint8(kind)}, full(0)} {
			x.Kind = uint8(kind)
			same(t, x, x, true)
			for _, y := range changed(x,
				func(x *api.Event) { x.Kind++ },
				func(x *api.Event) { x.Client++ },
				func(x *api.Event) { x.ID += 256 },
				func(x *api.Event) { x.Op.F++ },
				func(x *api.Event) { x.Op.Obj++ },
				func(x *api.Event) { x.Op.Key++ },
				func(x *api.Event) { x.Op.A++ },
				func(x *api.Event) { x.Op.B++ },
				func(x *api.Event) { x.Res.K++ },
				func(x *api.Event) { x.Res.V++ },
				func(x *api.Event) { x.Txn = append(slices.Clone(x.Txn), api.Micro{}) },
				func(x *api.Event) { x.Reads = append(slices.Clone(x.Reads), nil) },
				func(x *api.Event) { x.Reads = append(slices.Clone(x.Reads), []uint16{0}) },
				func(x *api.Event) { x.Config.Model++ },
				func(x *api.Event) { x.Config.MaxOpen++ },
				func(x *api.Event) { x.Config.MaxStates-- },
				func(x *api.Event) { x.Config.MaxSteps += 1 << 32 },
				func(x *api.Event) { x.Config.Partition = !x.Config.Partition },
				func(x *api.Event) { x.Config.Cut = !x.Config.Cut },
				func(x *api.Event) { x.Config.Memo = !x.Config.Memo },
			) {
				same(t, x, y, false)
			}
		}
	}
}

// TestSameLists is P5.1: lists are equal by their elements, in order, and nil is an empty list.
func TestSameLists(t *testing.T) {
	for _, c := range []struct {
		a, b [][]uint16
		want bool
	}{
		{nil, nil, true},
		{nil, [][]uint16{}, true},
		{nil, [][]uint16{nil}, false},
		{[][]uint16{}, [][]uint16{{}}, false},
		{[][]uint16{nil}, [][]uint16{{}}, true},
		{[][]uint16{{}, nil}, [][]uint16{nil, {}}, true},
		{[][]uint16{{1}}, [][]uint16{{1}}, true},
		{[][]uint16{{1}}, [][]uint16{{2}}, false},
		{[][]uint16{{1}}, [][]uint16{{257}}, false},
		{[][]uint16{{1, 2}}, [][]uint16{{2, 1}}, false},
		{[][]uint16{{1, 2}}, [][]uint16{{1}, {2}}, false},
		{[][]uint16{{1}, {}}, [][]uint16{{}, {1}}, false},
		{[][]uint16{{1}, {2}}, [][]uint16{{1}}, false},
		{[][]uint16{{1, 2}}, [][]uint16{{1}}, false},
		{[][]uint16{{0}}, [][]uint16{{}}, false},
		{[][]uint16{{1}, nil}, [][]uint16{{1}}, false},
	} {
		for _, kind := range []uint8{api.Commit, api.Info, 0, 255} {
			same(t, api.Event{Kind: kind, Reads: c.a}, api.Event{Kind: kind, Reads: c.b}, c.want)
		}
	}
	for _, c := range []struct {
		a, b []api.Micro
		want bool
	}{
		{nil, nil, true},
		{nil, []api.Micro{}, true},
		{nil, []api.Micro{{}}, false},
		{[]api.Micro{{}}, []api.Micro{{}, {}}, false},
		{[]api.Micro{{Key: 1, V: 2}}, []api.Micro{{Key: 1, V: 2}}, true},
		{[]api.Micro{{Key: 1, V: 2}}, []api.Micro{{Key: 1, V: 258}}, false},
		{[]api.Micro{{Key: 1, V: 2}}, []api.Micro{{Key: 2, V: 2}}, false},
		{[]api.Micro{{Key: 1}}, []api.Micro{{Read: true, Key: 1}}, false},
		{[]api.Micro{{Key: 1}, {Key: 2}}, []api.Micro{{Key: 2}, {Key: 1}}, false},
	} {
		for _, kind := range []uint8{api.Begin, api.Info, 0, 255} {
			same(t, api.Event{Kind: kind, Txn: c.a}, api.Event{Kind: kind, Txn: c.b}, c.want)
		}
	}
}
