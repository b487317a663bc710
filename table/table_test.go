package table_test

import (
	"math"
	"slices"
	"testing"

	"umpire/api"
	"umpire/table"
)

// latest is the greatest time that a table takes.
const latest = 1 << 61

var (
	read  = api.Op{F: api.Read}
	write = api.Op{F: api.Write, A: 5}
	five  = api.Result{K: api.Value, V: 5}
)

// open, completed and unknown are rows as a table has them.
func open(client uint8, id uint16, x api.Op, from int) table.Row {
	return table.Row{Client: client, ID: id, Op: x, Status: 0, From: from, To: 1 << 62}
}

func completed(client uint8, id uint16, x api.Op, from int, res api.Result, to int) table.Row {
	return table.Row{Client: client, ID: id, Op: x, Status: 1, Res: res, From: from, To: to}
}

func unknown(client uint8, id uint16, x api.Op, from int) table.Row {
	return table.Row{Client: client, ID: id, Op: x, Status: 2, From: from, To: 1 << 62}
}

// is tells of the first call that returned another number than that.
func is(t *testing.T, want api.Errno, l ...api.Errno) {
	t.Helper()
	for i, e := range l {
		if e != want {
			t.Fatalf("call %d: %d, and not %d", i, e, want)
		}
	}
}

// has tells whether the table has these rows, asked in each way.
func has(t *testing.T, x *table.Table, want ...table.Row) {
	t.Helper()
	if l := x.Rows(); !slices.Equal(l, want) {
		t.Fatalf("Rows: %v, and not %v", l, want)
	}
	var counts [256]int
	for _, r := range want {
		counts[r.Status]++
		if found, ok := x.Find(r.ID); !ok || found != r {
			t.Fatalf("Find(%d): %v, %t, and not %v", r.ID, found, ok, r)
		}
	}
	for status, n := range counts {
		if m := x.Count(uint8(status)); m != n {
			t.Fatalf("Count(%d): %d, and not %d", status, m, n)
		}
	}
}

// without tells whether the table has no row with any of these IDs.
func without(t *testing.T, x *table.Table, l ...uint16) {
	t.Helper()
	for _, id := range l {
		if r, ok := x.Find(id); ok || r != (table.Row{}) {
			t.Fatalf("Find(%d): %v, %t", id, r, ok)
		}
	}
}

// takesFrom tells whether that is the least time that the table takes, in each call that passes one.
func takesFrom(t *testing.T, x *table.Table, least int) {
	t.Helper()
	for name, pass := range passing() {
		for at, late := range map[int]bool{least - 1: false, least - 2: false, 0: least == 0, -1: false, least: true, least + 1: true} {
			if e := pass(x.Copy(), 0, at); at <= latest && (e != api.ErrArg) != late {
				t.Fatalf("%s at %d, where the least time is %d: %d", name, at, least, e)
			}
		}
	}
}

// passing are the calls that pass a time.
func passing() map[string]func(x *table.Table, id uint16, at int) api.Errno {
	return map[string]func(x *table.Table, id uint16, at int) api.Errno{
		"Invoke": func(x *table.Table, id uint16, at int) api.Errno { return x.Invoke(3, id, write, at) },
		"Return": func(x *table.Table, id uint16, at int) api.Errno { return x.Return(id, five, at) },
		"Info":   (*table.Table).Info,
	}
}

// three returns a table with an open row 1, a completed one 2, and an unknown one 3, which takes times from 5 on.
func three(t *testing.T) *table.Table {
	t.Helper()
	x := table.New()
	is(t, api.OK, x.Invoke(0, 1, read, 0), x.Invoke(1, 2, read, 1), x.Invoke(2, 3, write, 2), x.Return(2, five, 3), x.Info(3, 4))
	return x
}

// rowsOfThree are the rows of three.
func rowsOfThree() []table.Row {
	return []table.Row{open(0, 1, read, 0), completed(1, 2, read, 1, five, 3), unknown(2, 3, write, 2)}
}

// TestExamples are the chapter's examples, P8.1 to P8.3.
func TestExamples(t *testing.T) {
	x := table.New()
	is(t, api.OK, x.Invoke(0, 1, read, 0), x.Invoke(1, 2, write, 1))
	is(t, api.ErrThere, x.Invoke(0, 1, read, 2))
	is(t, api.ErrArg, x.Invoke(0, 3, read, 1))
	nought := api.Result{K: api.Value}
	is(t, api.OK, x.Return(1, nought, 3))
	is(t, api.ErrNone, x.Return(1, nought, 4))
	is(t, api.OK, x.Info(2, 4), x.Invoke(0, 3, read, 5))
	has(t, x, completed(0, 1, read, 0, nought, 3), unknown(1, 2, write, 1), open(0, 3, read, 5))
	l := x.Rows()
	if !table.Before(l[0], l[2]) || table.Before(l[0], l[1]) || table.Before(l[2], l[0]) || table.Before(l[1], l[2]) {
		t.Errorf("Before of 1 and 3, of 1 and 2, of 3 and 1, of 2 and 3: %t, %t, %t, %t", table.Before(l[0], l[2]), table.Before(l[0], l[1]), table.Before(l[2], l[0]), table.Before(l[1], l[2]))
	}
	if n := x.Settle(); n != 1 {
		t.Errorf("Settle: %d", n)
	}
	is(t, api.OK, x.Remove(2))
	is(t, api.ErrNone, x.Remove(2))
	if n := x.Count(table.Open); n != 1 {
		t.Errorf("Count: %d", n)
	}
	has(t, x, open(0, 3, read, 5))
}

// TestConstants are the chapter's numbers.
func TestConstants(t *testing.T) {
	if table.Open != 0 || table.Completed != 1 || table.Unknown != 2 || table.Never != 1<<62 {
		t.Errorf("%d, %d, %d, %d", table.Open, table.Completed, table.Unknown, table.Never)
	}
}

// TestNew is P8.1: no rows, no times, and nothing in common with another table.
func TestNew(t *testing.T) {
	x, y := table.New(), table.New()
	if x == nil || x == y {
		t.Fatalf("New: %p, %p", x, y)
	}
	has(t, x)
	without(t, x, 0, 1, 65535)
	is(t, api.ErrNone, x.Return(0, five, 0), x.Info(0, 0), x.Remove(0))
	takesFrom(t, x, 0)
	is(t, api.OK, x.Invoke(0, 1, read, 7))
	has(t, y)
	takesFrom(t, y, 0)
}

// TestNotMade is P8.1: nil, and a Table that neither New nor Copy returned.
func TestNotMade(t *testing.T) {
	for name, x := range map[string]*table.Table{"nil": nil, "zero": {}, "new": new(table.Table)} {
		for range 2 {
			for _, at := range []int{0, 5, -1, latest + 1} {
				is(t, api.ErrNil, x.Invoke(0, 1, read, at), x.Return(1, five, at), x.Info(1, at), x.Remove(1))
			}
			if n := x.Settle(); n != 0 {
				t.Errorf("%s: Settle: %d", name, n)
			}
			without(t, x, 0, 1, 65535)
			if l := x.Rows(); l != nil {
				t.Errorf("%s: Rows: %v", name, l)
			}
			for status := range 256 {
				if n := x.Count(uint8(status)); n != 0 {
					t.Errorf("%s: Count(%d): %d", name, status, n)
				}
			}
			if y := x.Copy(); y != nil {
				t.Errorf("%s: Copy: %v", name, y)
			}
		}
	}
}

// TestBeforeOfRows is P8.1: rows of each two statuses, where the first one's To is less than the second one's From by 1, equal, greater by 1.
func TestBeforeOfRows(t *testing.T) {
	for first := range uint8(3) {
		for second := range uint8(3) {
			for _, late := range []int{-1, 0, 1} {
				a := table.Row{ID: 1, Status: first, From: 3, To: 5}
				b := table.Row{ID: 2, Status: second, From: 5 + late, To: 9}
				if got := table.Before(a, b); got != (first == table.Completed && late == 1) {
					t.Errorf("Before of %v and %v: %t", a, b, got)
				}
				if table.Before(b, a) {
					t.Errorf("Before of %v and %v", b, a)
				}
			}
		}
	}
}

// TestBeforeIsItsDefinition is P8.1: nothing counts but the first one's Status and To, and the second one's From, of whatever sizes.
func TestBeforeIsItsDefinition(t *testing.T) {
	times := []int{math.MinInt, -1, 0, 1, 2, latest, table.Never - 1, table.Never, table.Never + 1, math.MaxInt}
	for status := range 256 {
		for _, to := range times {
			for _, from := range times {
				want := status == 1 && to < from
				for _, other := range times {
					a := table.Row{Client: 9, ID: 8, Op: write, Res: five, Status: uint8(status), From: other, To: to}
					b := table.Row{Client: 9, ID: 8, Op: write, Res: five, Status: uint8(255 - status), From: from, To: other}
					if got := table.Before(a, b); got != want {
						t.Fatalf("Before of %v and %v: %t", a, b, got)
					}
					if got := table.Before(table.Row{Status: uint8(status), To: to}, table.Row{Status: 1, From: from}); got != want {
						t.Fatalf("Before of a row %d to %d and one from %d: %t", status, to, from, got)
					}
				}
			}
		}
	}
}

// many are rows of tables: of each status, over all times from 0 to 5 that one may have.
func many(t *testing.T) []table.Row {
	t.Helper()
	var l []table.Row
	for from := range 5 {
		for to := from + 1; to < 6; to++ {
			x := table.New()
			is(t, api.OK, x.Invoke(0, 1, read, from), x.Return(1, five, to))
			l = append(l, x.Rows()...)
			x = table.New()
			is(t, api.OK, x.Invoke(0, 1, read, from), x.Info(1, to))
			l = append(l, x.Rows()...)
		}
		x := table.New()
		is(t, api.OK, x.Invoke(0, 1, read, from))
		l = append(l, x.Rows()...)
	}
	return l
}

// TestBeforeIsAnOrder is P8.4.
func TestBeforeIsAnOrder(t *testing.T) {
	l := many(t)
	pairs := 0
	for _, a := range l {
		if table.Before(a, a) {
			t.Fatalf("%v is before itself", a)
		}
		for _, b := range l {
			if !table.Before(a, b) {
				continue
			}
			pairs++
			for _, c := range l {
				if table.Before(b, c) && !table.Before(a, c) {
					t.Fatalf("%v is before %v, and that before %v", a, b, c)
				}
				for _, d := range l {
					if table.Before(c, d) && !table.Before(a, d) && !table.Before(c, b) {
						t.Fatalf("%v is before %v, and %v before %v", a, b, c, d)
					}
				}
			}
		}
	}
	if pairs == 0 {
		t.Error("no row is before another one")
	}
}

// TestOpenAndUnknownAreBeforeNone is P8.5.
func TestOpenAndUnknownAreBeforeNone(t *testing.T) {
	l := append(many(t), table.Row{From: latest, To: table.Never}, table.Row{From: math.MaxInt, To: math.MaxInt})
	for _, a := range l {
		for _, b := range l {
			if a.Status != table.Completed && table.Before(a, b) {
				t.Errorf("%v is before %v", a, b)
			}
		}
	}
}

// TestStruct tells that a copy of the struct is the same table: what is done with one of both is done with the other one.
func TestStruct(t *testing.T) {
	x := three(t)
	y := *x
	is(t, api.OK, y.Invoke(7, 9, write, 5), y.Return(1, five, 6), x.Remove(2), x.Invoke(8, 2, read, 7))
	if n := y.Settle(); n != 1 {
		t.Errorf("Settle: %d", n)
	}
	is(t, api.OK, x.Invoke(1, 1, read, 8))
	want := []table.Row{unknown(2, 3, write, 2), open(7, 9, write, 5), open(8, 2, read, 7), open(1, 1, read, 8)}
	has(t, x, want...)
	has(t, &y, want...)
	takesFrom(t, x, 9)
	takesFrom(t, &y, 9)
}
