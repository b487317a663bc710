package entries

import (
	"cmp"
	"slices"

	"umpire/table"
)

// What entries are: at the same time, the lower one is before the other one.
const (
	call = iota
	back
)

// entry is the call of a row, or its return.
type entry struct {
	node[entry]
	row  int
	kind uint8
	time int
}

// isCall tells whether e is there, and is a call.
func (e *entry) isCall() bool { return e != nil && e.kind == call }

// compare tells whether a is before (-1) or after (1) b in order of time.
func compare(a, b *entry) int {
	return cmp.Or(cmp.Compare(a.time, b.time), cmp.Compare(a.kind, b.kind), cmp.Compare(a.row, b.row))
}

// pair is the entries of a row; back is nil if it is not Completed.
type pair struct{ call, back *entry }

// kept is what a list keeps.
type kept struct {
	entries *chain[entry] // of the rows that are not lifted
	rows    []pair
	lifted  []int  // the rows that are lifted, in the order in which they were
	first   *entry // the first return among the entries; nil, if there is none
}

// newKept returns what the list of the entries of the rows keeps.
func newKept(rows []table.Row) *kept {
	k := &kept{entries: newChain[entry](), rows: make([]pair, len(rows))}
	var order []*entry
	for i, r := range rows {
		k.rows[i].call = &entry{row: i, kind: call, time: r.From}
		order = append(order, k.rows[i].call)
		if r.Status == table.Completed {
			k.rows[i].back = &entry{row: i, kind: back, time: r.To}
			order = append(order, k.rows[i].back)
		}
	}
	slices.SortFunc(order, compare)
	for _, e := range order {
		k.entries.add(&e.node, e)
	}
	k.first = returnFrom(k.entries.first())
	return k
}

// has tells whether there is a row i.
func (k *kept) has(i int) bool { return i >= 0 && i < len(k.rows) }

// isLifted tells whether the row i is lifted.
func (k *kept) isLifted(i int) bool { return k.rows[i].call.out }

// next returns the rows that may be next, in order of their calls.
func (k *kept) next() []int {
	var l []int
	for e := k.entries.first(); e.isCall(); e = e.after() {
		l = append(l, e.row)
	}
	return l
}

// behind returns the entry behind the call of the row i, or the first one if i is below 0; nil, if a return is before it, or there is none.
func (k *kept) behind(i int) *entry {
	if i < 0 {
		return k.entries.first()
	}
	e := k.rows[i].call
	if k.first != nil && compare(k.first, e) < 0 {
		return nil
	}
	return e.after()
}

// lift lifts the row i, which is not lifted.
func (k *kept) lift(i int) {
	r := k.rows[i]
	r.call.cutOut()
	if r.back != nil {
		r.back.cutOut()
		if k.first == r.back {
			k.first = returnFrom(r.back.after())
		}
	}
	k.lifted = append(k.lifted, i)
}

// unlift unlifts the row that was lifted last, and returns it.
func (k *kept) unlift() int {
	last := len(k.lifted) - 1
	i := k.lifted[last]
	k.lifted = k.lifted[:last]
	r := k.rows[i]
	if r.back != nil {
		r.back.putBack()
		if k.first == nil || compare(r.back, k.first) < 0 {
			k.first = r.back
		}
	}
	r.call.putBack()
	return i
}

// returnFrom returns the first return from e on, or nil if there is none.
func returnFrom(e *entry) *entry {
	for e.isCall() {
		e = e.after()
	}
	return e
}
