package entries_test

import (
	"slices"
	"testing"

	"umpire/entries"
	"umpire/table"
)

// atOnce are n rows of which all may be next; every other one is Completed.
func atOnce(n int) []table.Row {
	var rows []table.Row
	for i := range n {
		if i%2 == 0 {
			rows = append(rows, completed(i, n+i))
		} else {
			rows = append(rows, open(i))
		}
	}
	return rows
}

// TestLoopEnds is P16.2: a loop ends at each of its rows; the next one begins at the first again.
func TestLoopEnds(t *testing.T) {
	x := made(t, atOnce(6)...)
	all := x.Next()
	for stop := range 6 {
		var got []int
		for i := range all {
			got = append(got, i)
			if i == stop {
				break
			}
		}
		if !slices.Equal(got, []int{0, 1, 2, 3, 4, 5}[:stop+1]) {
			t.Errorf("a loop that ended at %d: %v", stop, got)
		}
		n := 0
		all(func(int) bool { n++; return n <= stop })
		if n != stop+1 {
			t.Errorf("Next yielded %d rows, and not %d", n, stop+1)
		}
	}
	next(t, x, 0, 1, 2, 3, 4, 5)
}

// TestLoopLifts is P16.2: the rows are those at the beginning of the loop, whatever is lifted in it.
func TestLoopLifts(t *testing.T) {
	for _, order := range [][]int{{0, 1, 2, 3}, {3, 2, 1, 0}, {1, 3, 0, 2}, {2, 0, 3, 1}} {
		x := made(t, append(atOnce(4), completed(100, 101), open(102))...)
		var got []int
		for i := range x.Next() {
			lift(t, x, order[len(got)])
			got = append(got, i)
		}
		if !slices.Equal(got, []int{0, 1, 2, 3}) {
			t.Errorf("a loop in which %v are lifted: %v", order, got)
		}
		next(t, x, 4)
		slices.Reverse(order)
		unlift(t, x, order...)
		next(t, x, 0, 1, 2, 3)
	}
}

// TestLoopUnlifts is P16.2: rows that were lifted before the loop are unlifted in it.
func TestLoopUnlifts(t *testing.T) {
	x := made(t, append(atOnce(4), completed(100, 101), open(102))...)
	lift(t, x, 0, 2, 1, 4)
	var got []int
	for i := range x.Next() {
		unlift(t, x, []int{4, 1}[len(got)])
		got = append(got, i)
	}
	if !slices.Equal(got, []int{3, 5}) {
		t.Errorf("a loop in which rows are unlifted: %v", got)
	}
	next(t, x, 1, 3, 4)
	for i := range x.Next() {
		unlift(t, x, 2, 0)
		lift(t, x, i)
		break
	}
	next(t, x, 0, 2, 3)
}

// TestLoopBegins is P16.2: a loop begins when it is ranged over, not when Next is called; and each time anew.
func TestLoopBegins(t *testing.T) {
	x := made(t, example()...)
	all := x.Next()
	lift(t, x, 0)
	if l := slices.Collect(all); !slices.Equal(l, []int{1, 2, 3}) {
		t.Errorf("a loop after a Lift: %v", l)
	}
	lift(t, x, 2)
	if l := slices.Collect(all); !slices.Equal(l, []int{1, 3}) {
		t.Errorf("a loop after two: %v", l)
	}
	unlift(t, x, 2, 0)
	if l := slices.Collect(all); !slices.Equal(l, []int{0, 1}) {
		t.Errorf("a loop after all are unlifted: %v", l)
	}
}

// orders returns all orders in which the rows of x that are not lifted can be lifted, each when it may be next; in loops in loops, each of which lifts and unlifts.
func orders(x *entries.List, n int) [][]int {
	if x.Count() == n {
		return [][]int{nil}
	}
	var l [][]int
	for i := range x.Next() {
		x.Lift(i)
		for _, o := range orders(x, n) {
			l = append(l, append([]int{i}, o...))
		}
		x.Unlift()
	}
	return l
}

// ordersBehind returns the same by Behind.
func ordersBehind(x *entries.List, n int) [][]int {
	if x.Count() == n {
		return [][]int{nil}
	}
	var l [][]int
	for i, ok := x.Behind(-1); ok; i, ok = x.Behind(i) {
		x.Lift(i)
		for _, o := range ordersBehind(x, n) {
			l = append(l, append([]int{i}, o...))
		}
		x.Unlift()
	}
	return l
}

// ordered tells whether in that order no row comes before one that is before it.
func ordered(rows []table.Row, order []int) bool {
	for k, i := range order {
		for _, j := range order[k+1:] {
			if table.Before(rows[j], rows[i]) {
				return false
			}
		}
	}
	return true
}

// permutations are all orders of the numbers below n.
func permutations(n int) [][]int {
	if n == 0 {
		return [][]int{nil}
	}
	var l [][]int
	for _, o := range permutations(n - 1) {
		for k := range n {
			l = append(l, slices.Insert(slices.Clone(o), k, n-1))
		}
	}
	return l
}

// sameOrders tells whether two lists have the same orders, each once.
func sameOrders(a, b [][]int) bool {
	slices.SortFunc(a, slices.Compare)
	slices.SortFunc(b, slices.Compare)
	return slices.EqualFunc(a, b, slices.Equal)
}

// TestOrders is P16.5: the orders in which all rows can be lifted, each when it may be next, are those in which none comes before one that is before it.
func TestOrders(t *testing.T) {
	r := rule(5)
	for range 400 {
		rows := r.rows(r.below(6), 10)
		var want [][]int
		for _, o := range permutations(len(rows)) {
			if ordered(rows, o) {
				want = append(want, o)
			}
		}
		x := made(t, rows...)
		if got := orders(x, len(rows)); !sameOrders(got, want) {
			t.Fatalf("%v: orders %v, and not %v", rows, got, want)
		}
		if got := ordersBehind(x, len(rows)); !sameOrders(got, want) {
			t.Fatalf("%v: orders by Behind %v, and not %v", rows, got, want)
		}
		unliftsNone(t, x)
	}
}
