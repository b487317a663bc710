package table

import (
	"cmp"
	"maps"
	"slices"
	"sort"
)

// latest is the greatest time that may be passed.
const latest = 1 << 61

// kept is what a table keeps.
type kept struct {
	rows []Row          // in order of From
	from map[uint16]int // of each row, by its ID; unlike its place among the rows it stays when others are removed
	last int            // the greatest time that was passed
}

// newKept returns what a table without rows keeps.
func newKept() *kept {
	return &kept{from: map[uint16]int{}, last: -1}
}

// copy returns an equal one of its own.
func (k *kept) copy() *kept {
	return &kept{rows: slices.Clone(k.rows), from: maps.Clone(k.from), last: k.last}
}

// rises tells whether a time may be passed next.
func (k *kept) rises(at int) bool { return at > k.last && at <= latest }

// none is what stands for no row: a row of a table has a To above 0.
func none() Row { return Row{} }

// sought are rows in order of From, among which the one of a time is looked for.
type sought struct {
	rows []Row
	from int
}

// compare tells whether the time is before (-1), at (0) or after (1) the From of the row i.
func (s sought) compare(i int) int { return cmp.Compare(s.from, s.rows[i].From) }

// find returns the row with that ID, and its place among the rows; none(), if no row has it.
func (k *kept) find(id uint16) (place int, r Row) {
	from, there := k.from[id]
	if !there {
		return 0, none()
	}
	place, _ = sort.Find(len(k.rows), sought{k.rows, from}.compare)
	return place, k.rows[place]
}

// add adds r, whose From is above all times that were passed.
func (k *kept) add(r Row) {
	k.rows = append(k.rows, r)
	k.from[r.ID] = r.From
	k.last = r.From
}

// remove removes the row at that place.
func (k *kept) remove(place int) {
	delete(k.from, k.rows[place].ID)
	k.rows = slices.Delete(k.rows, place, place+1)
}

// settle removes all rows that are Completed, and returns how many there were.
func (k *kept) settle() int {
	left := k.rows[:0]
	for _, r := range k.rows {
		if r.Status == Completed {
			delete(k.from, r.ID)
		} else {
			left = append(left, r)
		}
	}
	n := len(k.rows) - len(left)
	k.rows = left
	return n
}
