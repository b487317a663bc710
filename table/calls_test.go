package table_test

import (
	"math"
	"testing"

	"umpire/api"
	"umpire/table"
)

// TestTimesOfANewTable is P8.2: which times may be the first one.
func TestTimesOfANewTable(t *testing.T) {
	for at, want := range map[int]api.Errno{
		0: api.OK, 1: api.OK, 1 << 32: api.OK, latest - 1: api.OK, latest: api.OK,
		-1: api.ErrArg, -2: api.ErrArg, math.MinInt: api.ErrArg, latest + 1: api.ErrArg, table.Never: api.ErrArg, math.MaxInt: api.ErrArg,
	} {
		x := table.New()
		is(t, want, x.Invoke(0, 1, read, at))
		if want == api.OK {
			has(t, x, open(0, 1, read, at))
		} else {
			has(t, x)
			takesFrom(t, x, 0)
		}
	}
}

// TestTimesBehindACall is P8.2: behind each call that passed a time each one takes later times alone, up to the latest one.
func TestTimesBehindACall(t *testing.T) {
	idOf := func(name string, there, free uint16) uint16 {
		if name == "Invoke" {
			return free
		}
		return there
	}
	for first, pass := range passing() {
		for _, last := range []int{2, 3, 1000, latest - 2, latest - 1, latest} {
			x := table.New()
			is(t, api.OK, x.Invoke(0, 1, read, 0), x.Invoke(1, 2, read, 1), pass(x, idOf(first, 1, 8), last))
			for second, passed := range passing() {
				for at, late := range map[int]bool{
					last - 1: false, last: false, 0: false, -1: false, math.MinInt: false,
					last + 1: last < latest, last + 2: last < latest-1, latest: last < latest, latest + 1: false, math.MaxInt: false,
				} {
					want := api.ErrArg
					if late {
						want = api.OK
					}
					if e := passed(x.Copy(), idOf(second, 2, 9), at); e != want {
						t.Fatalf("%s at %d, and then %s at %d: %d", first, last, second, at, e)
					}
				}
			}
		}
	}
}

// TestRefusedTimesDoNotCount is P8.2: a call that was refused passed no time.
func TestRefusedTimesDoNotCount(t *testing.T) {
	x := three(t)
	for range 2 {
		is(t, api.ErrThere, x.Invoke(0, 1, read, 5), x.Invoke(0, 2, read, 100), x.Invoke(0, 3, read, latest))
		is(t, api.ErrNone, x.Return(2, five, 5), x.Return(3, five, 100), x.Return(9, five, latest), x.Info(2, 5), x.Info(3, 100), x.Info(9, latest))
		is(t, api.ErrArg, x.Invoke(0, 9, read, 4), x.Return(1, five, 4), x.Info(1, 4))
		is(t, api.ErrArg, x.Invoke(0, 9, read, latest+1), x.Return(1, five, math.MaxInt), x.Info(1, -1))
		is(t, api.ErrNone, x.Remove(9))
		has(t, x, rowsOfThree()...)
		takesFrom(t, x, 5)
	}
	is(t, api.OK, x.Invoke(0, 9, read, 5), x.Return(1, five, 6), x.Info(9, 7))
}

// TestOrderOfErrors is P8.2: a wrong time is told before an ID that is there, or is not.
func TestOrderOfErrors(t *testing.T) {
	x := three(t)
	for _, at := range []int{4, 0, -1, math.MinInt, latest + 1, math.MaxInt} {
		for _, id := range []uint16{0, 1, 2, 3, 4, 65535} {
			is(t, api.ErrArg, x.Invoke(0, id, read, at), x.Return(id, five, at), x.Info(id, at))
		}
	}
	has(t, x, rowsOfThree()...)
	takesFrom(t, x, 5)
}

// TestExtremes is P8.2: the least and the greatest IDs and clients, and any operation, which is kept as it is.
func TestExtremes(t *testing.T) {
	odd := api.Op{F: 255, Obj: 254, Key: 253, A: 65535, B: 65534}
	for _, id := range []uint16{0, 1, 32767, 32768, 65535} {
		for _, client := range []uint8{0, 1, 15, 16, 255} {
			for _, op := range []api.Op{read, write, odd, {}} {
				x := table.New()
				is(t, api.OK, x.Invoke(client, id, op, 3))
				has(t, x, open(client, id, op, 3))
				without(t, x, id+1, id-1)
				is(t, api.ErrNone, x.Return(id+1, five, 4), x.Info(id-1, 4), x.Remove(id+1))
				y := x.Copy()
				is(t, api.OK, x.Return(id, five, 4), y.Info(id, 4))
				has(t, x, completed(client, id, op, 3, five, 4))
				has(t, y, unknown(client, id, op, 3))
				is(t, api.OK, x.Remove(id), y.Remove(id))
				has(t, x)
				has(t, y)
			}
		}
	}
}

// TestOneClient is P8.2: a client may have any number of rows open.
func TestOneClient(t *testing.T) {
	x := table.New()
	is(t, api.OK, x.Invoke(4, 3, read, 0), x.Invoke(4, 2, write, 1), x.Invoke(4, 1, read, 2), x.Return(2, five, 3))
	has(t, x, open(4, 3, read, 0), completed(4, 2, write, 1, five, 3), open(4, 1, read, 2))
}

// TestInvokeOfAnIDThatWas is P8.2: an ID is refused as long as there is a row with it, of whatever status.
func TestInvokeOfAnIDThatWas(t *testing.T) {
	x := three(t)
	is(t, api.ErrThere, x.Invoke(9, 1, write, 5), x.Invoke(9, 2, write, 5), x.Invoke(9, 3, write, 5))
	has(t, x, rowsOfThree()...)
	for id := range uint16(3) {
		id++
		y := x.Copy()
		is(t, api.OK, y.Remove(id))
		without(t, y, id)
		is(t, api.OK, y.Invoke(9, id, write, 5))
		is(t, api.ErrThere, y.Invoke(9, id, write, 6))
		if r, ok := y.Find(id); !ok || r != open(9, id, write, 5) {
			t.Errorf("Find(%d): %v, %t", id, r, ok)
		}
	}
	x.Settle()
	is(t, api.ErrThere, x.Invoke(9, 1, write, 5), x.Invoke(9, 3, write, 5))
	is(t, api.OK, x.Invoke(9, 2, write, 5))
	has(t, x, open(0, 1, read, 0), unknown(2, 3, write, 2), open(9, 2, write, 5))
}

// TestReturnAndInfo are P8.2: of IDs that there are not, and of rows of each status.
func TestReturnAndInfo(t *testing.T) {
	x := three(t)
	is(t, api.ErrNone, x.Return(0, five, 5), x.Return(2, five, 5), x.Return(3, five, 5), x.Return(4, five, 5), x.Return(65535, five, 5))
	is(t, api.ErrNone, x.Info(0, 5), x.Info(2, 5), x.Info(3, 5), x.Info(4, 5), x.Info(65535, 5))
	has(t, x, rowsOfThree()...)
	for id := range uint16(3) {
		id++
		y := x.Copy()
		is(t, api.OK, y.Remove(id))
		is(t, api.ErrNone, y.Return(id, five, 5), y.Info(id, 5))
	}
	y := x.Copy()
	y.Settle()
	is(t, api.ErrNone, y.Return(2, five, 5), y.Info(2, 5))

	y = x.Copy()
	is(t, api.OK, x.Return(1, five, 5), y.Info(1, 5))
	l := rowsOfThree()
	has(t, x, completed(0, 1, read, 0, five, 5), l[1], l[2])
	has(t, y, unknown(0, 1, read, 0), l[1], l[2])
	is(t, api.ErrNone, x.Return(1, five, 6), x.Info(1, 6), y.Return(1, five, 6), y.Info(1, 6))
	takesFrom(t, x, 6)
	takesFrom(t, y, 6)
}

// TestAnyResult is P8.2: a result is kept as it is, also one that the operation cannot have.
func TestAnyResult(t *testing.T) {
	for kind := range 256 {
		for _, v := range []uint16{0, 1, 65535} {
			for _, op := range []api.Op{read, write, {F: api.Acquire}, {}} {
				x, res := table.New(), api.Result{K: uint8(kind), V: v}
				is(t, api.OK, x.Invoke(1, 2, op, 0), x.Return(2, res, 1))
				has(t, x, completed(1, 2, op, 0, res, 1))
			}
		}
	}
}

// TestLatestTimes is P8.2: From and To as they are passed, up to the latest time.
func TestLatestTimes(t *testing.T) {
	x := table.New()
	is(t, api.OK, x.Invoke(0, 1, read, latest-2), x.Invoke(0, 2, read, latest-1), x.Return(1, five, latest))
	is(t, api.ErrArg, x.Return(2, five, latest), x.Info(2, latest+1), x.Invoke(0, 3, read, latest+1))
	has(t, x, completed(0, 1, read, latest-2, five, latest), open(0, 2, read, latest-1))
}

// TestRemove is P8.3: rows of each status, and IDs that there are not; and the times that were passed still count.
func TestRemove(t *testing.T) {
	x, l := three(t), rowsOfThree()
	is(t, api.ErrNone, x.Remove(0), x.Remove(4), x.Remove(65535))
	has(t, x, l...)
	for i, left := range [][]table.Row{{l[1], l[2]}, {l[0], l[2]}, {l[0], l[1]}} {
		y, id := x.Copy(), uint16(i+1)
		is(t, api.OK, y.Remove(id))
		is(t, api.ErrNone, y.Remove(id))
		has(t, y, left...)
		without(t, y, id)
		takesFrom(t, y, 5)
	}
	is(t, api.OK, x.Remove(2), x.Remove(1), x.Remove(3))
	has(t, x)
	takesFrom(t, x, 5)
	is(t, api.ErrNone, x.Remove(1), x.Remove(2), x.Remove(3))
	is(t, api.OK, x.Invoke(8, 3, read, 5))
	has(t, x, open(8, 3, read, 5))
}

// settles tells whether Settle removes so many rows, and these are left.
func settles(t *testing.T, x *table.Table, n int, left ...table.Row) {
	t.Helper()
	if m := x.Settle(); m != n {
		t.Fatalf("Settle: %d, and not %d", m, n)
	}
	has(t, x, left...)
}

// TestSettle is P8.3: no rows, rows of all statuses, twice; and the times that were passed still count.
func TestSettle(t *testing.T) {
	x := table.New()
	settles(t, x, 0)
	settles(t, x, 0)
	takesFrom(t, x, 0)

	x = three(t)
	l := rowsOfThree()
	settles(t, x, 1, l[0], l[2])
	without(t, x, 2)
	settles(t, x, 0, l[0], l[2])
	takesFrom(t, x, 5)
	is(t, api.OK, x.Return(1, five, 5))
	settles(t, x, 1, l[2])
	takesFrom(t, x, 6)
	is(t, api.OK, x.Remove(3))
	settles(t, x, 0)

	is(t, api.OK, x.Invoke(0, 5, read, 6), x.Invoke(0, 4, read, 7), x.Invoke(0, 3, read, 8), x.Invoke(0, 2, read, 9), x.Invoke(0, 1, read, 10))
	is(t, api.OK, x.Return(3, five, 11), x.Return(5, five, 12), x.Return(1, five, 13))
	settles(t, x, 3, open(0, 4, read, 7), open(0, 2, read, 9))
	is(t, api.OK, x.Return(2, five, 14), x.Return(4, five, 15))
	settles(t, x, 2)
	takesFrom(t, x, 16)
}

// TestFind is P8.3: rows of each status, and none.
func TestFind(t *testing.T) {
	x := three(t)
	has(t, x, rowsOfThree()...)
	for id := range 65536 {
		if id < 1 || id > 3 {
			without(t, x, uint16(id))
		}
	}
}

// TestRowsInOrder is P8.3: in order of From, whatever the IDs, and behind removals.
func TestRowsInOrder(t *testing.T) {
	x := table.New()
	var want []table.Row
	for i, id := range []uint16{7, 65535, 3, 0, 9, 8, 1, 300, 2, 6} {
		is(t, api.OK, x.Invoke(uint8(i), id, write, 3*i))
		want = append(want, open(uint8(i), id, write, 3*i))
		has(t, x, want...)
	}
	is(t, api.OK, x.Remove(0), x.Remove(6), x.Remove(7))
	has(t, x, want[1], want[2], want[4], want[5], want[6], want[7], want[8])
	is(t, api.OK, x.Invoke(5, 7, read, 100), x.Invoke(6, 0, read, 101))
	has(t, x, want[1], want[2], want[4], want[5], want[6], want[7], want[8], open(5, 7, read, 100), open(6, 0, read, 101))
	is(t, api.OK, x.Return(300, five, 102), x.Return(65535, five, 103), x.Info(8, 104), x.Return(1, five, 105))
	settles(t, x, 3, want[2], want[4], unknown(5, 8, write, 15), want[8], open(5, 7, read, 100), open(6, 0, read, 101))
	is(t, api.OK, x.Invoke(7, 1, read, 106))
	has(t, x, want[2], want[4], unknown(5, 8, write, 15), want[8], open(5, 7, read, 100), open(6, 0, read, 101), open(7, 1, read, 106))
}

// TestRowsAreNewMemory is P8.3: what is handed back may be changed without effect, also in the room behind it.
func TestRowsAreNewMemory(t *testing.T) {
	x, wrong := three(t), table.Row{Client: 99, ID: 99, Status: 1, From: 99, To: 100}
	for range 3 {
		l, m := x.Rows(), x.Rows()
		for i := range l[:cap(l)] {
			l[:cap(l)][i] = wrong
		}
		_ = append(l[:1], wrong, wrong, wrong, wrong)
		if m[0] != rowsOfThree()[0] || m[2] != rowsOfThree()[2] {
			t.Fatalf("Rows of two calls share memory: %v", m)
		}
		has(t, x, rowsOfThree()...)
		takesFrom(t, x, 5)
	}
	l := x.Rows()
	is(t, api.OK, x.Return(1, five, 5), x.Remove(2), x.Invoke(9, 9, read, 6))
	x.Settle()
	for i, r := range rowsOfThree() {
		if l[i] != r {
			t.Errorf("Rows changed behind the call: %v", l)
		}
	}
}

// TestCount is P8.3: each status, and numbers that are none.
func TestCount(t *testing.T) {
	x := table.New()
	counts := func(want ...int) {
		t.Helper()
		for status, n := range append(want, 0, 0) {
			if m := x.Count(uint8(status)); m != n {
				t.Errorf("Count(%d): %d, and not %d", status, m, n)
			}
		}
		if n := x.Count(255); n != 0 {
			t.Errorf("Count(255): %d", n)
		}
	}
	counts(0, 0, 0)
	for i := range 6 {
		is(t, api.OK, x.Invoke(0, uint16(i), read, i))
		counts(i+1, 0, 0)
	}
	is(t, api.OK, x.Return(0, five, 10))
	counts(5, 1, 0)
	is(t, api.OK, x.Return(4, five, 11), x.Info(2, 12))
	counts(3, 2, 1)
	is(t, api.OK, x.Info(1, 13), x.Info(5, 14))
	counts(1, 2, 3)
	is(t, api.OK, x.Remove(4), x.Remove(1))
	counts(1, 1, 2)
	x.Settle()
	counts(1, 0, 2)
}

// TestAllIDs is P8.2 and P8.3: a row of each ID there is.
func TestAllIDs(t *testing.T) {
	const n = 1 << 16
	x := table.New()
	var want []table.Row
	for i := range n {
		id := uint16(i * 40503) // odd, so each ID comes once
		is(t, api.OK, x.Invoke(uint8(i), id, read, i))
		want = append(want, open(uint8(i), id, read, i))
	}
	for id := range n {
		is(t, api.ErrThere, x.Invoke(0, uint16(id), read, n))
	}
	has(t, x, want...)
	var left []table.Row
	for i, r := range want {
		if i%3 == 0 {
			is(t, api.OK, x.Return(r.ID, five, n+i))
		} else {
			left = append(left, r)
		}
	}
	settles(t, x, n-len(left), left...)
	takesFrom(t, x, 2*n)
	without(t, x, want[0].ID, want[n-1].ID)
}
