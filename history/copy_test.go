package history_test

import (
	"fmt"
	"slices"
	"testing"

	"umpire/api"
	"umpire/history"
)

// TestPending is P7.4: the Invoke or Begin of what a client has open, as it was.
func TestPending(t *testing.T) {
	for _, l := range [][]string{
		{registers, "invoke 0 0 7 cas 65535 2", "invoke 15 9 0 read", "invoke 3 65535 1 write 5"},
		{maps, "invoke 15 0 0 swap 7 65535 1", "invoke 0 1 2 del 3"},
		{appends, "begin 15 0 read 0 append 0 65535 append 7 0 read 1", "begin 0 300 append 0 1 append 0 2 append 0 3 append 0 4 append 0 5 append 0 6 append 0 7 append 0 8", "begin 1 65535 read 7"},
	} {
		a := after(t, l...)
		for range 2 {
			for _, x := range all(t, l[1:]...) {
				if y, ok := a.Pending(x.Client); !ok || fmt.Sprint(y) != fmt.Sprint(x) {
					t.Errorf("Pending of %d: %v, %t, and not %v", x.Client, y, ok, x)
				}
			}
		}
	}
}

// TestPendingOfNobody is P7.4: clients that there are not, and those that have nothing open.
func TestPendingOfNobody(t *testing.T) {
	a := after(t, registers, "invoke 0 1 0 read", "invoke 15 2 0 read")
	for client := range 256 {
		x, ok := a.Pending(uint8(client))
		if ok != (client == 0 || client == 15) || !ok && fmt.Sprint(x) != fmt.Sprint(api.Event{}) {
			t.Errorf("Pending of %d: %v, %t", client, x, ok)
		}
	}
}

// TestCopy is P7.4: a copy tells the same and accepts the same, in each state.
func TestCopy(t *testing.T) {
	for _, l := range [][]string{
		{registers, "invoke 0 1 0 read", "invoke 1 5 0 write 5", "return 0 1 value 0", "info 1 5"},
		{appends, "begin 0 1 append 0 7", "begin 15 2 read 0 append 1 7", "commit 0 1", "abort 15 2"},
	} {
		a := history.New()
		for i := range l {
			b := a.Copy()
			if b == nil || b == a || told(a) != told(b) || told(b.Copy()) != told(a) {
				t.Fatalf("%q: a copy of %s", l[:i], told(a))
			}
			accepts(t, b, l[i:]...)
			accepts(t, a.Copy().Copy(), l[i:]...)
			accepts(t, a, l[i])
		}
		refuses(t, a.Copy(), api.ErrState, models()...)
	}
}

// TestCopiesAreApart is P7.4: what is done with a copy makes no difference to the original, and the other way round.
func TestCopiesAreApart(t *testing.T) {
	for _, swap := range []bool{false, true} {
		pair := func(a *history.Automaton) (*history.Automaton, *history.Automaton) {
			if swap {
				return a.Copy(), a
			}
			return a, a.Copy()
		}
		a, b := pair(history.New())
		accepts(t, a, registers)
		tells(t, b, 0, -1)
		accepts(t, b, appends)
		if c, _ := a.Config(); c != of(t, registers).Config {
			t.Errorf("Config: %v", c)
		}

		a, b = pair(after(t, locks, "invoke 0 5 0 acquire"))
		accepts(t, a, "return 0 5 yes", "invoke 1 9 0 acquire")
		tells(t, b, 1, 5, 0)
		accepts(t, b, "invoke 1 6 0 release", "info 1 6", "return 0 5 no")
		tells(t, a, 1, 9, 1)
		refuses(t, a, api.ErrThere, "invoke 0 7 0 acquire")
		accepts(t, b, "invoke 0 7 0 acquire")

		a, b = pair(after(t, appends, "begin 0 5 append 0 7 append 1 7"))
		accepts(t, a, "begin 1 6 append 0 8 append 2 7")
		refuses(t, b, api.ErrThere, "begin 1 6 append 0 7", "begin 1 6 append 1 7")
		accepts(t, b, "begin 1 6 append 0 8 append 3 7", "begin 2 7 append 2 7")
		accepts(t, a, "begin 2 7 append 3 7")
		for _, d := range []*history.Automaton{a, b} {
			refuses(t, d, api.ErrThere, "begin 3 8 append 0 7", "begin 3 8 append 0 8", "begin 3 8 append 2 7", "begin 3 8 append 3 7")
		}
		accepts(t, a, "begin 3 8 append 4 0")
		accepts(t, b, "begin 3 8 append 4 0")
	}
}

// TestStruct tells that a copy of the struct is the same automaton: what one of both accepts, the other one has accepted.
func TestStruct(t *testing.T) {
	a := after(t, appends, "begin 0 5 append 0 7")
	b := *a
	accepts(t, &b, "commit 0 5", "begin 1 6 append 0 8")
	tells(t, a, 1, 6, 1)
	refuses(t, a, api.ErrThere, "begin 0 6 append 0 9", "begin 0 7 append 0 8")
	accepts(t, a, "abort 1 6", "begin 0 7 append 0 9")
	refuses(t, &b, api.ErrThere, "begin 1 8 append 0 9")
	if told(a) != told(&b) {
		t.Errorf("%s, and not %s", told(&b), told(a))
	}
}

// TestManyCopies is P7.4: copies of copies, each with a number of its own.
func TestManyCopies(t *testing.T) {
	a := after(t, appends)
	var l []*history.Automaton
	for n := range 40 {
		b := a.Copy()
		accepts(t, b, fmt.Sprintf("begin 0 %d append 0 %d", 2*n+1, 1000+n))
		l = append(l, b)
		accepts(t, a, fmt.Sprintf("begin 0 %d append 0 %d", 2*n, n), fmt.Sprintf("info 0 %d", 2*n))
	}
	for i, b := range l {
		for n := range 40 {
			seen := map[bool]api.Errno{true: api.ErrThere, false: api.OK}
			for v, was := range map[int]bool{n: n < i, 1000 + n: n == i} {
				if e := b.Copy().Step(of(t, fmt.Sprintf("begin 1 100 append 0 %d", v))); e != seen[was] {
					t.Fatalf("copy %d, number %d: %d", i, v, e)
				}
			}
		}
	}
}

// allIs tells whether All of l is that.
func allIs(t *testing.T, n int, e api.Errno, l ...api.Event) {
	t.Helper()
	for range 2 {
		if m, f := history.All(l); m != n || f != e {
			t.Errorf("All of %.300s: %d, %d, and not %d, %d", fmt.Sprint(l), m, f, n, e)
		}
	}
}

// TestAll is P7.4: how many events are accepted, and the first error.
func TestAll(t *testing.T) {
	allIs(t, 0, api.OK)
	allIs(t, 0, api.OK, []api.Event{}...)
	for _, s := range models() {
		allIs(t, 1, api.OK, of(t, s))
		allIs(t, 1, api.ErrState, of(t, s), of(t, s))
	}
	l := all(t, registers, "invoke 0 1 0 read", "invoke 15 2 0 write 1", "return 0 1 value 0", "info 15 2", "invoke 15 3 0 read")
	for n := range len(l) + 1 {
		allIs(t, n, api.OK, l[:n]...)
	}
	allIs(t, 0, api.ErrState, l[1:]...)
	allIs(t, 0, api.ErrForm, append([]api.Event{{}}, l...)...)
	allIs(t, 0, api.ErrState, of(t, "abort 0 0"))
	allIs(t, 2, api.ErrBusy, slices.Concat(l[:2], all(t, "invoke 0 2 0 read"), l[2:])...)
	allIs(t, 2, api.ErrThere, slices.Concat(l[:2], all(t, "invoke 1 1 0 read"), l[2:])...)
	allIs(t, 3, api.ErrForeign, slices.Concat(l[:3], all(t, "return 0 1 done"), l[3:])...)
	allIs(t, 4, api.ErrNone, slices.Concat(l[:4], l[3:])...)
	allIs(t, 3, api.ErrForm, slices.Concat(l[:3], []api.Event{{Kind: api.Info, Client: 16}}, l[3:], []api.Event{{}})...)
	allIs(t, 6, api.ErrForeign, append(l[:6:6], of(t, "commit 15 3"))...)
	allIs(t, 6, api.ErrThere, append(l[:6:6], all(t, "invoke 0 3 0 read", "commit 15 3", "invoke 0 4 0 read")...)...)

	m := all(t, appends, "begin 0 1 append 0 7", "begin 1 2 append 1 7", "abort 0 1", "commit 1 2")
	allIs(t, 5, api.OK, m...)
	allIs(t, 5, api.ErrThere, append(m[:5:5], of(t, "begin 0 3 append 0 7"))...)
	allIs(t, 2, api.ErrThere, append(m[:2:2], of(t, "begin 1 2 append 0 7"))...)
	allIs(t, 4, api.ErrForeign, append(m[:4:4], of(t, "commit 1 2 -"))...)
	allIs(t, 5, api.OK, m...)
}

// room are the elements of an event's lists, and those in the room behind them.
func room(x api.Event) string {
	s := fmt.Sprint(x.Txn[:cap(x.Txn)], x.Reads[:cap(x.Reads)])
	for _, l := range x.Reads[:cap(x.Reads)] {
		s += fmt.Sprint(l[:cap(l)])
	}
	return s
}

// roomy is x with lists that have room behind their elements, also those that are empty.
func roomy(x api.Event) api.Event {
	x.Txn = append(make([]api.Micro, 0, 20), x.Txn...)
	reads := make([][]uint16, 0, 20)
	for _, l := range x.Reads {
		reads = append(reads, append(make([]uint16, 0, 40), l...))
	}
	x.Reads = reads
	return x
}

// spoil changes all elements of x's lists, and those in the room behind them.
func spoil(x api.Event) {
	for i := range x.Txn[:cap(x.Txn)] {
		x.Txn[:cap(x.Txn)][i] = api.Micro{Key: 7, V: 65535 - uint16(i)}
	}
	for i, l := range x.Reads[:cap(x.Reads)] {
		for j := range l[:cap(l)] {
			l[:cap(l)][j] = 65535
		}
		x.Reads[:cap(x.Reads)][i] = []uint16{1, 2, 3}
	}
}

// TestHandedIn is P7.7: what is handed in is not changed, and may be changed afterwards without effect.
func TestHandedIn(t *testing.T) {
	for _, l := range [][]string{
		{registers, "invoke 0 1 0 read", "invoke 1 2 0 write 5", "return 0 1 value 7", "info 1 2"},
		{appends, "begin 0 1 read 0 append 0 7 append 1 7", "begin 1 2 append 0 8 read 3", "commit 0 1 5,6", "begin 0 3 append 2 2", "commit 1 2 -", "abort 0 3"},
	} {
		a, b := history.New(), history.New()
		var handed, kept []api.Event
		for _, s := range l {
			x := roomy(of(t, s))
			before := fmt.Sprint(x) + room(x)
			for _, d := range []*history.Automaton{a.Copy(), a} {
				if e := d.Step(x); e != api.OK || fmt.Sprint(x)+room(x) != before {
					t.Fatalf("%q: %d, %v, %s", s, e, x, room(x))
				}
			}
			if e := a.Step(x); e == api.OK || fmt.Sprint(x)+room(x) != before {
				t.Fatalf("%q: once more: %d, %v, %s", s, e, x, room(x))
			}
			accepts(t, b, s)
			y, _ := a.Pending(x.Client)
			spoil(y)
			if fmt.Sprint(x)+room(x) != before {
				t.Fatalf("%q: Pending hands back what was handed in: %v, %s", s, x, room(x))
			}
			spoil(x)
			if told(a) != told(b) {
				t.Fatalf("%q: %s, and not %s", s, told(a), told(b))
			}
			handed, kept = append(handed, roomy(of(t, s))), append(kept, of(t, s))
		}
		if n, e := history.All(handed); n != len(l) || e != api.OK || fmt.Sprint(handed) != fmt.Sprint(kept) {
			t.Errorf("All: %d, %d, %v", n, e, handed)
		}
		spoil(handed[1])
		clear(handed)
		allIs(t, len(kept), api.OK, kept...)
	}
	a := after(t, appends)
	x := roomy(of(t, "begin 0 1 append 0 7 append 0 8"))
	a.Step(x)
	spoil(x)
	refuses(t, a, api.ErrThere, "begin 1 2 append 0 7", "begin 1 2 append 0 8")
	refuses(t, a, api.ErrForeign, "commit 0 1 -")
	accepts(t, a, "begin 1 2 append 7 65535 append 7 65534", "commit 0 1")
}

// TestHandedBack is P7.4 and P7.7: what Pending hands back is new memory, each time.
func TestHandedBack(t *testing.T) {
	a := after(t, appends, "begin 0 1 read 0 append 0 7", "begin 1 2 append 0 8")
	b, before := a.Copy(), told(a)
	for _, d := range []*history.Automaton{a, b, a} {
		for client := range uint8(2) {
			x, _ := d.Pending(client)
			y, _ := d.Pending(client)
			spoil(x)
			if fmt.Sprint(y) != fmt.Sprint(of(t, []string{"begin 0 1 read 0 append 0 7", "begin 1 2 append 0 8"}[client])) || told(a) != before || told(b) != before {
				t.Errorf("%v, %s, %s", y, told(a), told(b))
			}
			spoil(y)
		}
	}
	refuses(t, a, api.ErrForeign, "commit 0 1", "commit 1 2 -")
	accepts(t, a, "commit 0 1 -", "commit 1 2", "begin 2 3 append 7 65535 append 7 65534")
	if told(b) != before {
		t.Errorf("%s, and not %s", told(b), before)
	}
}
