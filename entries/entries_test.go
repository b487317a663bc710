package entries_test

import (
	"math"
	"slices"
	"testing"

	"umpire/api"
	"umpire/entries"
	"umpire/table"
)

// completed, open and unknown are rows with that status; of the latter two, To counts for nothing.
func completed(from, to int) table.Row {
	return table.Row{Status: table.Completed, From: from, To: to}
}
func open(from int) table.Row { return table.Row{From: from, To: table.Never} }
func unknown(from int) table.Row {
	return table.Row{Status: table.Unknown, From: from, To: table.Never}
}

// example is the rows of the chapter's examples.
func example() []table.Row {
	return []table.Row{completed(0, 3), open(1), completed(4, 6), unknown(5)}
}

// made is the list of the rows, which are searchable.
func made(t *testing.T, rows ...table.Row) *entries.List {
	t.Helper()
	x := entries.New(rows)
	if x == nil {
		t.Fatalf("New of %v: nil", rows)
	}
	return x
}

// next tells whether these rows may be next, in that order, asked in each way.
func next(t *testing.T, x *entries.List, want ...int) {
	t.Helper()
	if l := slices.Collect(x.Next()); !slices.Equal(l, want) {
		t.Errorf("Next: %v, and not %v", l, want)
	}
	i := -1
	for _, k := range want {
		behind(t, x, i, k)
		i = k
	}
	behindNone(t, x, i)
}

// behind tells whether Behind(i) is k.
func behind(t *testing.T, x *entries.List, i, k int) {
	t.Helper()
	if got, ok := x.Behind(i); got != k || !ok {
		t.Errorf("Behind(%d): %d, %t, and not %d", i, got, ok, k)
	}
}

// behindNone tells whether Behind(i) is none.
func behindNone(t *testing.T, x *entries.List, i int) {
	t.Helper()
	if k, ok := x.Behind(i); k != 0 || ok {
		t.Errorf("Behind(%d): %d, %t, and not none", i, k, ok)
	}
}

// lift lifts these rows, one after the other.
func lift(t *testing.T, x *entries.List, rows ...int) {
	t.Helper()
	for _, i := range rows {
		n := x.Count()
		if x.Lifted(i) {
			t.Errorf("Lifted(%d) before Lift", i)
		}
		if e := x.Lift(i); e != api.OK || !x.Lifted(i) || x.Count() != n+1 {
			t.Errorf("Lift(%d): %d, then %t and %d", i, e, x.Lifted(i), x.Count())
		}
		refuses(t, x, i, api.ErrThere)
	}
}

// refuses tells whether Lift(i) returns that error, and changes nothing.
func refuses(t *testing.T, x *entries.List, i int, want api.Errno) {
	t.Helper()
	n, is := x.Count(), x.Lifted(i)
	if e := x.Lift(i); e != want || x.Count() != n || x.Lifted(i) != is {
		t.Errorf("Lift(%d): %d, and not %d; then %t and %d", i, e, want, x.Lifted(i), x.Count())
	}
}

// unlift unlifts these rows, one after the other.
func unlift(t *testing.T, x *entries.List, rows ...int) {
	t.Helper()
	for _, want := range rows {
		n := x.Count()
		if i, e := x.Unlift(); i != want || e != api.OK || x.Lifted(i) || x.Count() != n-1 {
			t.Errorf("Unlift: %d, %d, and not %d; then %t and %d", i, e, want, x.Lifted(i), x.Count())
		}
	}
}

// unliftsNone tells whether Unlift refuses, as it must where nothing is lifted.
func unliftsNone(t *testing.T, x *entries.List) {
	t.Helper()
	if i, e := x.Unlift(); i != 0 || e != api.ErrState || x.Count() != 0 {
		t.Errorf("Unlift of none: %d, %d; then %d", i, e, x.Count())
	}
}

// whole tells whether Whole is want.
func whole(t *testing.T, x *entries.List, want bool) {
	t.Helper()
	if x.Whole() != want {
		t.Errorf("Whole: %t", x.Whole())
	}
}

// TestExamples is the chapter's examples.
func TestExamples(t *testing.T) {
	x := made(t, example()...)
	next(t, x, 0, 1)
	behind(t, x, -1, 0)
	behind(t, x, 0, 1)
	behindNone(t, x, 1)
	lift(t, x, 0)
	next(t, x, 1, 2, 3)
	whole(t, x, false)
	refuses(t, x, 0, api.ErrThere)
	refuses(t, x, 4, api.ErrArg)
	lift(t, x, 2)
	whole(t, x, true)
	next(t, x, 1, 3)
	behind(t, x, 2, 3)
	unlift(t, x, 2, 0)
	unliftsNone(t, x)
	next(t, x, 0, 1)
	if entries.New([]table.Row{completed(3, 3)}) != nil {
		t.Error("New of a row that returned when it was invoked")
	}
}

// TestSearchable is P16.1: each row that is Completed must have returned after it was invoked, wherever it stands; nothing is asked of others.
func TestSearchable(t *testing.T) {
	for _, r := range []table.Row{completed(0, 1), completed(-5, -4), completed(math.MinInt, math.MaxInt), completed(0, table.Never), completed(math.MaxInt-1, math.MaxInt)} {
		made(t, r)
		made(t, r, r, open(0))
	}
	for _, at := range []int{math.MinInt, -7, 0, 1, 7, table.Never, math.MaxInt} {
		for _, to := range []int{at, at - 1, 0, math.MinInt} {
			if to > at { // below the least number there is none
				continue
			}
			for _, status := range []uint8{table.Open, table.Unknown, 3, 4, 128, 255} {
				x := made(t, table.Row{Status: status, From: at, To: to})
				next(t, x, 0)
				whole(t, x, true)
			}
			r := completed(at, to)
			for _, rows := range [][]table.Row{{r}, {r, open(0)}, {completed(0, 1), r}, {unknown(0), r, completed(0, 1)}} {
				if entries.New(rows) != nil {
					t.Errorf("New of %v", rows)
				}
			}
		}
	}
}

// TestNoRows is P16.1 to P16.3: of nil and of an empty list there is a list, of which no row may be next.
func TestNoRows(t *testing.T) {
	for _, x := range []*entries.List{made(t), made(t, []table.Row{}...)} {
		for range 2 {
			next(t, x)
			whole(t, x, true)
			unliftsNone(t, x)
			for _, i := range []int{math.MinInt, -1, 0, 1, math.MaxInt} {
				refuses(t, x, i, api.ErrArg)
				behindNone(t, x, i)
			}
		}
	}
}

// TestNil is P16.1: on nil, and on a List that New did not return.
func TestNil(t *testing.T) {
	for _, x := range []*entries.List{nil, {}, new(entries.List), entries.New([]table.Row{completed(1, 0)})} {
		for _, i := range []int{math.MinInt, -1, 0, 1, math.MaxInt} {
			refuses(t, x, i, api.ErrNil)
			behindNone(t, x, i)
			if x.Lifted(i) {
				t.Errorf("Lifted(%d)", i)
			}
		}
		if i, e := x.Unlift(); i != 0 || e != api.ErrNil {
			t.Errorf("Unlift: %d, %d", i, e)
		}
		if x.Count() != 0 || x.Whole() {
			t.Errorf("Count and Whole: %d, %t", x.Count(), x.Whole())
		}
		next(t, x)
	}
}

// TestNoSuchRow is P16.2 and P16.3: rows below the first one, and above the last one, however many are lifted.
func TestNoSuchRow(t *testing.T) {
	x := made(t, example()...)
	for first := range 5 {
		for _, i := range []int{math.MinInt, -2, -1, 4, 5, 1 << 32, math.MaxInt} {
			refuses(t, x, i, api.ErrArg)
			if x.Lifted(i) {
				t.Errorf("Lifted(%d)", i)
			}
			if i < 0 && first < 4 {
				behind(t, x, i, first)
			} else {
				behindNone(t, x, i)
			}
		}
		if first < 4 {
			lift(t, x, first)
		}
	}
}

// TestSameTime is P16.1: at the same time calls are before returns, and are in the order of the rows in the list.
func TestSameTime(t *testing.T) {
	x := made(t, completed(5, 9), open(5), completed(0, 5), unknown(5), completed(5, 6), completed(6, 7), open(7))
	next(t, x, 2, 0, 1, 3, 4)
	behindNone(t, x, 5)
	lift(t, x, 2)
	next(t, x, 0, 1, 3, 4, 5)
	behindNone(t, x, 6)
	lift(t, x, 4)
	next(t, x, 0, 1, 3, 5, 6)
	behind(t, x, 4, 5)
	behind(t, x, 2, 0)
	unlift(t, x, 4, 2)
	next(t, x, 2, 0, 1, 3, 4)
}

// TestReturnsAtOneTime is P16.2 and P16.3: two returns at the same time, which are lifted in either order.
func TestReturnsAtOneTime(t *testing.T) {
	for _, order := range [][]int{{0, 1}, {1, 0}} {
		x := made(t, completed(0, 5), completed(1, 5), open(6))
		next(t, x, 0, 1)
		lift(t, x, order[0])
		next(t, x, order[1])
		whole(t, x, false)
		behindNone(t, x, 2)
		lift(t, x, order[1])
		next(t, x, 2)
		whole(t, x, true)
		unlift(t, x, order[1])
		next(t, x, order[1])
		lift(t, x, order[1])
		unlift(t, x, order[1], order[0])
		next(t, x, 0, 1)
		whole(t, x, false)
	}
}

// TestFarTimes is P16.1 to P16.3: times from the least to the greatest number there are; a row that is Completed has a return also at the time Never.
func TestFarTimes(t *testing.T) {
	x := made(t, open(math.MaxInt), completed(math.MinInt, math.MinInt+1), completed(math.MinInt+1, math.MaxInt), unknown(math.MinInt), open(0))
	next(t, x, 1, 3, 2)
	lift(t, x, 1)
	next(t, x, 3, 2, 4, 0)
	behind(t, x, 1, 3)
	x = made(t, completed(0, table.Never), open(table.Never), open(table.Never+1))
	next(t, x, 0, 1)
	whole(t, x, false)
	lift(t, x, 0)
	next(t, x, 1, 2)
	whole(t, x, true)
}

// TestStatus is P16.1: only a row whose status is Completed has a return, whatever its To is.
func TestStatus(t *testing.T) {
	for status := range 256 {
		x := made(t, table.Row{Status: uint8(status), From: 0, To: 1}, open(2))
		if status == table.Completed {
			next(t, x, 0)
		} else {
			next(t, x, 0, 1)
		}
		whole(t, x, status != table.Completed)
		lift(t, x, 0)
		next(t, x, 1)
		whole(t, x, true)
	}
}

// TestWhole is P16.3: rows that are not Completed count for nothing.
func TestWhole(t *testing.T) {
	x := made(t, example()...)
	whole(t, x, false)
	lift(t, x, 1, 3)
	whole(t, x, false)
	lift(t, x, 2)
	whole(t, x, false)
	lift(t, x, 0)
	whole(t, x, true)
	next(t, x)
	unlift(t, x, 0)
	whole(t, x, false)
	unlift(t, x, 2, 3, 1)
	whole(t, x, false)
	whole(t, made(t, open(0), unknown(1)), true)
	whole(t, made(t, open(0), completed(1, 2)), false)
}

// TestRowsAreNotKept is P16.1: the rows are left as they are, and what is done with them afterwards makes no difference; two lists of the same rows are apart.
func TestRowsAreNotKept(t *testing.T) {
	rows := example()
	x, y := made(t, rows...), made(t, rows...)
	lift(t, x, 0, 2)
	next(t, x, 1, 3)
	next(t, y, 0, 1)
	if !slices.Equal(rows, example()) {
		t.Errorf("rows after New and Lift: %v", rows)
	}
	for i := range rows {
		rows[i] = completed(7, 8)
	}
	next(t, x, 1, 3)
	unlift(t, x, 2, 0)
	next(t, x, 0, 1)
	next(t, y, 0, 1)
	lift(t, y, 3)
	behind(t, y, 0, 1)
	if y.Lifted(0) || x.Lifted(3) {
		t.Error("what is lifted in one list is lifted in the other one")
	}
}

// TestCopyOfStruct is P16.6: a copy of the struct is the same list.
func TestCopyOfStruct(t *testing.T) {
	x := made(t, example()...)
	y := *x
	lift(t, &y, 0)
	next(t, x, 1, 2, 3)
	lift(t, x, 2)
	whole(t, &y, true)
	unlift(t, &y, 2, 0)
	unliftsNone(t, x)
	next(t, x, 0, 1)
}
