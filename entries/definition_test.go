package entries_test

import (
	"slices"
	"testing"

	"umpire/api"
	"umpire/entries"
	"umpire/table"
)

// lifting is a second working-out of the definitions: the rows, and those that are lifted, in the order in which they were. It has no entries.
type lifting struct {
	rows   []table.Row
	lifted []int
}

func (l *lifting) isLifted(i int) bool { return slices.Contains(l.lifted, i) }

// may tells whether the row i may be next: it is not lifted, and no row that is not is before it.
func (l *lifting) may(i int) bool {
	for j, r := range l.rows {
		if !l.isLifted(j) && table.Before(r, l.rows[i]) {
			return false
		}
	}
	return !l.isLifted(i)
}

// calledBefore tells whether the call of the row i is before that of the row j.
func (l *lifting) calledBefore(i, j int) bool {
	a, b := l.rows[i].From, l.rows[j].From
	return a < b || a == b && i < j
}

// next is the rows that may be next: each time the one that is called first of those that are left.
func (l *lifting) next() []int {
	var order []int
	for i, ok := l.behind(-1); ok; i, ok = l.behind(i) {
		order = append(order, i)
	}
	return order
}

func (l *lifting) behind(i int) (k int, ok bool) {
	if i >= len(l.rows) {
		return 0, false
	}
	for j := range l.rows {
		if l.may(j) && (i < 0 || l.calledBefore(i, j)) && (!ok || l.calledBefore(j, k)) {
			k, ok = j, true
		}
	}
	return k, ok
}

func (l *lifting) whole() bool {
	for i, r := range l.rows {
		if r.Status == table.Completed && !l.isLifted(i) {
			return false
		}
	}
	return true
}

func (l *lifting) lift(i int) api.Errno {
	if i < 0 || i >= len(l.rows) {
		return api.ErrArg
	}
	if l.isLifted(i) {
		return api.ErrThere
	}
	l.lifted = append(l.lifted, i)
	return api.OK
}

func (l *lifting) unlift() (int, api.Errno) {
	n := len(l.lifted)
	if n == 0 {
		return 0, api.ErrState
	}
	i := l.lifted[n-1]
	l.lifted = l.lifted[:n-1]
	return i, api.OK
}

// agrees tells whether x and l say the same of each row.
func agrees(t *testing.T, x *entries.List, l *lifting) {
	t.Helper()
	got, want := slices.Collect(x.Next()), l.next()
	if !slices.Equal(got, want) {
		t.Fatalf("%v, lifted %v: Next: %v, and not %v", l.rows, l.lifted, got, want)
	}
	if len(l.lifted) < len(l.rows) && len(got) == 0 {
		t.Fatalf("%v, lifted %v: none may be next", l.rows, l.lifted)
	}
	if x.Count() != len(l.lifted) || x.Whole() != l.whole() {
		t.Fatalf("%v, lifted %v: Count and Whole: %d, %t", l.rows, l.lifted, x.Count(), x.Whole())
	}
	for i := -1; i <= len(l.rows); i++ {
		k, ok := x.Behind(i)
		if n, is := l.behind(i); k != n || ok != is {
			t.Fatalf("%v, lifted %v: Behind(%d): %d, %t, and not %d, %t", l.rows, l.lifted, i, k, ok, n, is)
		}
		if x.Lifted(i) != l.isLifted(i) {
			t.Fatalf("%v, lifted %v: Lifted(%d): %t", l.rows, l.lifted, i, x.Lifted(i))
		}
	}
}

// liftsBoth lifts the row i of both, and tells whether that is OK.
func liftsBoth(t *testing.T, x *entries.List, l *lifting, i int) bool {
	t.Helper()
	want := l.lift(i)
	if e := x.Lift(i); e != want {
		t.Fatalf("%v, lifted %v: Lift(%d): %d, and not %d", l.rows, l.lifted, i, e, want)
	}
	return want == api.OK
}

// unliftsBoth unlifts the last row of both.
func unliftsBoth(t *testing.T, x *entries.List, l *lifting) {
	t.Helper()
	i, want := l.unlift()
	if k, e := x.Unlift(); k != i || e != want {
		t.Fatalf("%v, lifted %v: Unlift: %d, %d, and not %d, %d", l.rows, l.lifted, k, e, i, want)
	}
}

// follow lifts each row, and so on, and unlifts it again.
func follow(t *testing.T, x *entries.List, l *lifting) {
	t.Helper()
	agrees(t, x, l)
	for i := -1; i <= len(l.rows); i++ {
		if !liftsBoth(t, x, l, i) {
			continue
		}
		follow(t, x, l)
		unliftsBoth(t, x, l)
		agrees(t, x, l)
	}
}

// rowsOf are all rows with times below n.
func rowsOf(n int) []table.Row {
	var l []table.Row
	for from := range n {
		l = append(l, open(from))
		for to := from + 1; to < n; to++ {
			l = append(l, completed(from, to))
		}
	}
	return l
}

// TestDefinition is P16.1 to P16.6: all lists of up to three rows at a few times, in each order in which rows can be lifted and unlifted.
func TestDefinition(t *testing.T) {
	var lists func(rows []table.Row, n int)
	lists = func(rows []table.Row, n int) {
		follow(t, made(t, rows...), &lifting{rows: rows})
		if n == 0 {
			return
		}
		for _, r := range rowsOf(4) {
			lists(append(slices.Clip(rows), r), n-1)
		}
	}
	lists(nil, 3)
}

// rule yields numbers below a bound, one after the other, by a rule that is the same each time.
type rule uint64

func (r *rule) below(n int) int {
	*r = *r*6364136223846793005 + 1442695040888963407
	return int(uint64(*r)>>33) % n
}

// rows are n rows of all kinds with times below most, some of them at the same time, and in no order.
func (r *rule) rows(n, most int) []table.Row {
	var l []table.Row
	for range n {
		from := r.below(most)
		switch r.below(5) {
		case 0:
			l = append(l, unknown(from))
		case 1:
			l = append(l, table.Row{From: from, To: r.below(most), ID: uint16(r.below(3))})
		default:
			l = append(l, completed(from, from+1+r.below(most/2)))
		}
	}
	return l
}

// TestFiveRows is P16.4 and P16.6: lists of five rows, in each order in which these can be lifted and unlifted.
func TestFiveRows(t *testing.T) {
	r := rule(2)
	for range 60 {
		rows := r.rows(5, 8)
		follow(t, made(t, rows...), &lifting{rows: rows})
	}
}

// TestLongRun is P16.1 to P16.6: long sequences of calls on many rows, whether they may be next or not.
func TestLongRun(t *testing.T) {
	r := rule(3)
	for _, n := range []int{1, 2, 7, 30, 60} {
		for _, most := range []int{2, 9, 3 * n} {
			rows := r.rows(n, most)
			x, l := made(t, rows...), &lifting{rows: rows}
			up := true
			for range 400 {
				if r.below(3*n) == 0 {
					up = !up
				}
				if up == (r.below(4) > 0) {
					liftsBoth(t, x, l, r.below(n+2)-1)
				} else {
					unliftsBoth(t, x, l)
				}
				agrees(t, x, l)
			}
		}
	}
}

// TestSearch is P16.2 to P16.6: lists as a search goes through them, with much that may be next, up to the end and back.
func TestSearch(t *testing.T) {
	r := rule(4)
	for range 20 {
		rows := r.rows(25, 50)
		x, l := made(t, rows...), &lifting{rows: rows}
		for range 3 {
			for i, ok := x.Behind(-1); ok; i, ok = x.Behind(-1) {
				for k, more := x.Behind(i); more && r.below(2) == 0; k, more = x.Behind(i) {
					i = k
				}
				liftsBoth(t, x, l, i)
				agrees(t, x, l)
			}
			if x.Count() != len(rows) {
				t.Fatalf("%d of %d rows are lifted, and none may be next", x.Count(), len(rows))
			}
			for x.Count() > r.below(20) {
				unliftsBoth(t, x, l)
				agrees(t, x, l)
			}
		}
	}
}

// TestOrderOfLifting is P16.4: which rows may be next depends only on which ones are lifted.
func TestOrderOfLifting(t *testing.T) {
	r := rule(6)
	for range 30 {
		rows := r.rows(6, 12)
		of := map[int][]int{}
		for _, order := range permutations(6) {
			x, set := made(t, rows...), 0
			for _, i := range order {
				lift(t, x, i)
				set |= 1 << i
				l := slices.Collect(x.Next())
				if was, there := of[set]; there && !slices.Equal(was, l) {
					t.Fatalf("%v, lifted in order %v: Next: %v, and not %v", rows, order, l, was)
				}
				of[set] = l
			}
		}
	}
}
