package table_test

import (
	"fmt"
	"slices"
	"testing"

	"umpire/api"
	"umpire/table"
)

// call is a call that changes a table, if it is OK.
type call struct {
	what string
	id   uint16
	at   int
}

// opOf and resOf are the operation and the result of calls at that time.
func opOf(at int) api.Op      { return api.Op{F: api.Write, A: uint16(at)} }
func resOf(at int) api.Result { return api.Result{K: uint8(at) % 5, V: uint16(at)} }

// of performs the call, and returns what it returned: an error, or a number of rows.
func (c call) of(x *table.Table) int {
	switch c.what {
	case "Invoke":
		return int(x.Invoke(uint8(c.at), c.id, opOf(c.at), c.at))
	case "Return":
		return int(x.Return(c.id, resOf(c.at), c.at))
	case "Info":
		return int(x.Info(c.id, c.at))
	case "Remove":
		return int(x.Remove(c.id))
	}
	return x.Settle()
}

// passes tells whether the call passes a time.
func (c call) passes() bool { return c.what != "Remove" && c.what != "Settle" }

// past are the calls that were OK, in order: a second working-out of the chapter's definitions, which keeps nothing else.
type past []call

// last is the greatest time that was passed.
func (p past) last() int {
	n := -1
	for _, c := range p {
		if c.passes() {
			n = max(n, c.at)
		}
	}
	return n
}

// row is the row with that ID.
func (p past) row(id uint16) (r table.Row, there bool) {
	for _, c := range p {
		switch {
		case c.what == "Settle":
			there = there && r.Status != table.Completed
		case c.id != id:
		case c.what == "Invoke":
			r, there = open(uint8(c.at), id, opOf(c.at), c.at), true
		case c.what == "Return":
			r = completed(r.Client, id, r.Op, r.From, resOf(c.at), c.at)
		case c.what == "Info":
			r = unknown(r.Client, id, r.Op, r.From)
		case c.what == "Remove":
			there = false
		}
	}
	if !there {
		return table.Row{}, false
	}
	return r, true
}

// rows are those of these IDs, in order of From.
func (p past) rows(ids []uint16) []table.Row {
	var l []table.Row
	for _, c := range p {
		if r, there := p.row(c.id); there && c.what == "Invoke" && r.From == c.at {
			l = append(l, r)
		}
	}
	return l
}

// answer is what the call returns, and whether it changes anything.
func (p past) answer(c call, ids []uint16) (int, bool) {
	if c.what == "Settle" {
		n := 0
		for _, r := range p.rows(ids) {
			if r.Status == table.Completed {
				n++
			}
		}
		return n, n > 0
	}
	r, there := p.row(c.id)
	switch {
	case c.passes() && (c.at < 0 || c.at > latest || c.at <= p.last()):
		return int(api.ErrArg), false
	case c.what == "Invoke" && there:
		return int(api.ErrThere), false
	case c.what == "Remove" && !there, c.what == "Return" && (!there || r.Status != table.Open), c.what == "Info" && (!there || r.Status != table.Open):
		return int(api.ErrNone), false
	}
	return int(api.OK), true
}

// callsAt are all calls with these IDs, at these times.
func callsAt(ids []uint16, times ...int) []call {
	l := []call{{what: "Settle"}}
	for _, id := range ids {
		l = append(l, call{what: "Remove", id: id})
		for _, at := range times {
			for _, what := range []string{"Invoke", "Return", "Info"} {
				l = append(l, call{what, id, at})
			}
		}
	}
	return l
}

// follow performs all calls on x, which has that past, and so on behind those that change it.
func follow(t *testing.T, x *table.Table, p past, ids []uint16, depth int) {
	t.Helper()
	last := p.last()
	for _, c := range callsAt(ids, last-1, last, last+1, last+2, latest+1) {
		want, changes := p.answer(c, ids)
		y := x.Copy()
		if n := c.of(y); n != want {
			t.Fatalf("behind %v: %v: %d, and not %d", p, c, n, want)
		}
		q := p
		if changes {
			q = append(slices.Clip(p), c)
		}
		if got, want := fmt.Sprint(y.Rows()), fmt.Sprint(q.rows(ids)); got != want {
			t.Fatalf("behind %v and %v: Rows %s, and not %s", p, c, got, want)
		}
		if changes && depth > 1 && c.at != last+2 { // what comes behind that time comes likewise behind the one before it
			follow(t, y, q, ids, depth-1)
		}
	}
}

// TestDefinition is P8.2, P8.3 and P8.5: each call behind each sequence of calls answers, and changes, what the definitions say.
func TestDefinition(t *testing.T) {
	for _, c := range []struct {
		ids   []uint16
		depth int
	}{{[]uint16{7}, 9}, {[]uint16{0, 65535}, 6}, {[]uint16{2, 1, 3}, 5}} {
		follow(t, table.New(), nil, c.ids, c.depth)
	}
}

// TestLongPast is P8.2 and P8.3: a long sequence of calls of all kinds, made by a rule, with many rows at a time.
func TestLongPast(t *testing.T) {
	ids := make([]uint16, 40)
	for i := range ids {
		ids[i] = uint16(i * 1009)
	}
	x, p, n := table.New(), past(nil), uint32(1)
	kinds := []string{"Invoke", "Invoke", "Return", "Info", "Invoke", "Remove", "Return"}
	for i := range 600 {
		n = n*1664525 + 1013904223
		c := call{kinds[n>>8%7], ids[n>>16%40], p.last() + int(n>>24%4)}
		if i%97 == 96 {
			c = call{what: "Settle"}
		}
		if !c.passes() {
			c.at = 0
		}
		want, changes := p.answer(c, ids)
		if got := c.of(x); got != want {
			t.Fatalf("call %d, %v: %d, and not %d", i, c, got, want)
		}
		if changes {
			p = append(p, c)
		}
		has(t, x, p.rows(ids)...)
		for _, id := range ids {
			r, there := p.row(id)
			if found, ok := x.Find(id); ok != there || found != r {
				t.Fatalf("call %d, %v: Find(%d): %v, %t, and not %v, %t", i, c, id, found, ok, r, there)
			}
		}
	}
	if m := len(x.Rows()); m < 5 {
		t.Errorf("%d rows at the end", m)
	}
}
