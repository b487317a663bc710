package table_test

import (
	"testing"

	"umpire/api"
	"umpire/table"
)

// TestCopyIsEqual is P8.3: the same rows, and the same times.
func TestCopyIsEqual(t *testing.T) {
	x := table.New()
	for range 2 {
		x = x.Copy()
		has(t, x)
		takesFrom(t, x, 0)
	}
	x = three(t)
	y := x.Copy()
	if y == nil || y == x {
		t.Fatalf("Copy: %p of %p", y, x)
	}
	for _, z := range []*table.Table{x, y, y.Copy().Copy()} {
		has(t, z, rowsOfThree()...)
		takesFrom(t, z, 5)
		is(t, api.ErrThere, z.Invoke(0, 2, read, 5))
	}
	x.Settle()
	is(t, api.OK, x.Remove(1), x.Remove(3))
	has(t, x.Copy())
	takesFrom(t, x.Copy(), 5)
}

// TestCopiesAreApart is P8.5: what is done with one of both makes no difference to the other one, also in its times.
func TestCopiesAreApart(t *testing.T) {
	l := rowsOfThree()
	for _, swap := range []bool{false, true} {
		pair := func() (*table.Table, *table.Table) {
			x := three(t)
			if swap {
				return x.Copy(), x
			}
			return x, x.Copy()
		}
		for name, do := range map[string]func(x *table.Table) api.Errno{
			"Invoke": func(x *table.Table) api.Errno { return x.Invoke(4, 4, write, 50) },
			"Return": func(x *table.Table) api.Errno { return x.Return(1, five, 50) },
			"Info":   func(x *table.Table) api.Errno { return x.Info(1, 50) },
			"Remove": func(x *table.Table) api.Errno { return x.Remove(1) },
			"last":   func(x *table.Table) api.Errno { return x.Remove(3) },
			"Settle": func(x *table.Table) api.Errno { return api.Errno(x.Settle() - 1) },
		} {
			x, y := pair()
			if e := do(x); e != api.OK {
				t.Fatalf("%s: %d", name, e)
			}
			has(t, y, l...)
			takesFrom(t, y, 5)
			is(t, api.OK, y.Invoke(5, 5, read, 5))
			has(t, y, l[0], l[1], l[2], open(5, 5, read, 5))
			without(t, x, 5)
		}

		x, y := pair()
		is(t, api.OK, x.Invoke(4, 4, write, 5), y.Invoke(5, 5, read, 6), x.Invoke(6, 6, read, 7), y.Invoke(7, 4, read, 8))
		has(t, x, l[0], l[1], l[2], open(4, 4, write, 5), open(6, 6, read, 7))
		has(t, y, l[0], l[1], l[2], open(5, 5, read, 6), open(7, 4, read, 8))
		is(t, api.OK, x.Return(4, five, 8), y.Info(4, 9), x.Remove(1), y.Remove(2))
		has(t, x, l[1], l[2], completed(4, 4, write, 5, five, 8), open(6, 6, read, 7))
		has(t, y, l[0], l[2], open(5, 5, read, 6), unknown(7, 4, read, 8))
		settles(t, x, 2, l[2], open(6, 6, read, 7))
		settles(t, y, 0, l[0], l[2], open(5, 5, read, 6), unknown(7, 4, read, 8))
		takesFrom(t, x, 9)
		takesFrom(t, y, 10)
	}
}

// TestCopiesBehindSettle is P8.5: also where the original has room that rows have left.
func TestCopiesBehindSettle(t *testing.T) {
	x := table.New()
	for i := range 8 {
		is(t, api.OK, x.Invoke(0, uint16(i), read, i))
	}
	for i := range 7 {
		is(t, api.OK, x.Return(uint16(i), five, 10+i))
	}
	x.Settle()
	y := x.Copy()
	is(t, api.OK, x.Invoke(1, 1, read, 20), y.Invoke(2, 2, write, 21), x.Invoke(3, 3, read, 22), y.Invoke(4, 4, write, 23))
	has(t, x, open(0, 7, read, 7), open(1, 1, read, 20), open(3, 3, read, 22))
	has(t, y, open(0, 7, read, 7), open(2, 2, write, 21), open(4, 4, write, 23))
	is(t, api.OK, x.Remove(7), y.Remove(2))
	has(t, x, open(1, 1, read, 20), open(3, 3, read, 22))
	has(t, y, open(0, 7, read, 7), open(4, 4, write, 23))
}
