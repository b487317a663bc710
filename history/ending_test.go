package history_test

import (
	"fmt"
	"slices"
	"testing"

	"umpire/api"
	"umpire/history"
	"umpire/op"
	"umpire/text"
)

// ends are forms of the lines that may end what is opened under that model, each with a place for the client and the ID.
func ends(config string) []string {
	if config == appends {
		return []string{"commit %d %d", "abort %d %d", "info %d %d"}
	}
	return []string{"return %d %d done", "return %d %d value 7", "return %d %d none", "return %d %d yes", "return %d %d no", "info %d %d"}
}

// TestEndOfNothing is P7.3: what ends something must be of a client that has it open, with its ID.
func TestEndOfNothing(t *testing.T) {
	for _, config := range models() {
		for _, form := range ends(config) {
			line := func(client, id int) string { return fmt.Sprintf(form, client, id) }
			a := after(t, config)
			refuses(t, a, api.ErrNone, line(0, 0), line(0, 1), line(15, 0), line(15, 65535))
			opens := map[string]string{registers: "invoke %d %d 0 read", queues: "invoke %d %d 0 deq", maps: "invoke %d %d 0 get 0", locks: "invoke %d %d 0 acquire", appends: "begin %d %d append 0 %[2]d"}[config]
			accepts(t, a, fmt.Sprintf(opens, 0, 5), fmt.Sprintf(opens, 15, 7))
			refuses(t, a, api.ErrNone,
				line(0, 0), line(0, 4), line(0, 6), line(0, 7), line(0, 261), line(0, 65535),
				line(15, 5), line(15, 0), line(15, 6), line(15, 8), line(15, 263),
				line(1, 5), line(1, 7), line(14, 7), line(2, 0), line(8, 5),
			)
			tells(t, a, 2, 7, 0, 15)
			accepts(t, a, "info 0 5")
			refuses(t, a, api.ErrNone, line(0, 5), line(0, 7), line(0, 0), line(15, 5), line(1, 5))
			accepts(t, a, fmt.Sprintf(opens, 0, 9))
			refuses(t, a, api.ErrNone, line(0, 5), line(0, 7), line(15, 9), line(9, 0))
			tells(t, a, 2, 9, 0, 15)
			accepts(t, a, "info 15 7", "info 0 9")
			refuses(t, a, api.ErrNone, line(0, 5), line(0, 9), line(15, 7), line(0, 0), line(15, 9))
			tells(t, a, 0, 9)
		}
	}
}

// TestEndTwice is P7.3: what was ended is not open, however it was ended.
func TestEndTwice(t *testing.T) {
	for _, c := range []struct {
		config, opens string
		ends          []string
	}{
		{registers, "invoke 3 0 0 read", []string{"return 3 0 value 0", "info 3 0"}},
		{queues, "invoke 3 0 0 deq", []string{"return 3 0 none", "return 3 0 value 65535", "info 3 0"}},
		{maps, "invoke 3 0 0 del 1", []string{"return 3 0 yes", "return 3 0 no", "info 3 0"}},
		{locks, "invoke 3 0 0 release", []string{"return 3 0 yes", "return 3 0 no", "info 3 0"}},
		{appends, "begin 3 0 append 0 1 read 1", []string{"commit 3 0 -", "commit 3 0 1,2,3", "abort 3 0", "info 3 0"}},
	} {
		for _, end := range c.ends {
			a := after(t, c.config, c.opens, end)
			tells(t, a, 0, 0)
			refuses(t, a, api.ErrNone, c.ends...)
			refuses(t, a, api.ErrThere, c.opens)
		}
	}
}

// kindsOf are the texts of the results that operations have, by F.
func kindsOf() map[uint8][]string {
	yesNo := []string{"yes", "no"}
	return map[uint8][]string{
		api.Read: {"value 0", "value 7", "value 65535"}, api.Write: {"done"}, api.CAS: yesNo,
		api.Enq: {"done"}, api.Deq: {"value 0", "value 7", "value 65535", "none"},
		api.Get: {"value 0", "value 7", "value 65535", "none"}, api.Put: {"done"}, api.Del: yesNo, api.Swap: yesNo,
		api.Acquire: yesNo, api.Release: yesNo,
	}
}

// TestReturns is P7.3: a result must be one that the operation may have.
func TestReturns(t *testing.T) {
	for model, l := range ops() {
		for _, words := range l {
			a := after(t, models()[model], "invoke 2 3 "+words, "invoke 0 4 "+words)
			x, _ := a.Pending(2)
			for _, r := range []string{"done", "value 0", "value 7", "value 65535", "none", "yes", "no"} {
				if !slices.Contains(kindsOf()[x.Op.F], r) {
					refuses(t, a, api.ErrForeign, "return 2 3 "+r, "return 0 4 "+r)
					refuses(t, a, api.ErrNone, "return 0 3 "+r, "return 2 4 "+r, "return 1 3 "+r)
					continue
				}
				b := a.Copy()
				accepts(t, b, "return 2 3 "+r)
				tells(t, b, 1, 4, 0)
				accepts(t, b, "return 0 4 "+r)
				tells(t, b, 0, 4)
			}
			tells(t, a, 2, 4, 0, 2)
		}
	}
}

// TestEachF is that the tests above go through all operations.
func TestEachF(t *testing.T) {
	n := 0
	for model, l := range ops() {
		for _, words := range l {
			x, e := text.Parse("invoke 0 0 " + words)
			if m, _ := op.Model(x.Op.F); e != api.OK || int(m) != model || kindsOf()[x.Op.F] == nil {
				t.Errorf("%q: %v", words, x)
			}
			n |= 1 << x.Op.F
		}
	}
	if n != 1<<12-2 {
		t.Errorf("operations: %b", n)
	}
}

// TestReturnOfItsOwn is P7.3: it is the operation of the client that counts, and the one that it has open now.
func TestReturnOfItsOwn(t *testing.T) {
	a := after(t, registers, "invoke 0 1 0 read", "invoke 1 2 0 write 5", "invoke 2 3 0 cas 1 2")
	refuses(t, a, api.ErrForeign, "return 0 1 done", "return 0 1 yes", "return 1 2 value 5", "return 1 2 no", "return 2 3 done", "return 2 3 value 1")
	accepts(t, a, "return 1 2 done", "invoke 1 4 0 read")
	refuses(t, a, api.ErrForeign, "return 1 4 done", "return 0 1 none")
	refuses(t, a, api.ErrNone, "return 1 2 done")
	accepts(t, a, "return 1 4 value 9", "return 0 1 value 0", "return 2 3 no")
	tells(t, a, 0, 4)
}

// lists are n lists of a Commit, some of which are empty.
func lists(n int) [][]uint16 {
	l := make([][]uint16, n)
	for i := range l {
		l[i] = make([]uint16, i*5%33)
	}
	return l
}

// TestCommits is P7.3: a Commit must have as many lists as the transaction has reads.
func TestCommits(t *testing.T) {
	id := uint16(0)
	a := after(t, appends)
	for size := 1; size <= 8; size++ {
		for mask := range 1 << size { // which of them are appends
			id++
			x, reads := api.Event{Kind: api.Begin, Client: 15, ID: id}, 0
			for i := range size {
				if mask>>i&1 > 0 {
					x.Txn = append(x.Txn, api.Micro{Key: uint8(i), V: id})
				} else {
					x.Txn = append(x.Txn, api.Micro{Read: true, Key: uint8(i)})
					reads++
				}
			}
			if e := a.Step(x); e != api.OK {
				t.Fatalf("%v: %d", x, e)
			}
			for n := range 9 {
				y := api.Event{Kind: api.Commit, Client: 15, ID: id, Reads: lists(n)}
				if n != reads {
					refusesEvents(t, a, api.ErrForeign, y)
					y.ID--
					refusesEvents(t, a, api.ErrNone, y)
				}
			}
			if e := a.Step(api.Event{Kind: api.Commit, Client: 15, ID: id, Reads: lists(reads)}); e != api.OK {
				t.Fatalf("%v: %d lists: %d", x, reads, e)
			}
		}
	}
	tells(t, a, 0, int(id))
}

// TestCommitLists is P7.3: one list too few, one too many, none where there are no reads; what is in them does not matter.
func TestCommitLists(t *testing.T) {
	a := after(t, appends, "begin 0 1 read 0 read 0 append 0 7 read 1", "begin 1 2 append 0 8", "begin 2 3 read 5")
	refuses(t, a, api.ErrForeign, "commit 0 1", "commit 0 1 -", "commit 0 1 - -", "commit 0 1 1 2,3", "commit 0 1 - - - -", "commit 0 1 1 2 3 4")
	refuses(t, a, api.ErrForeign, "commit 1 2 -", "commit 1 2 8", "commit 1 2 - -", "commit 2 3", "commit 2 3 - -", "commit 2 3 1 1")
	for _, s := range []string{"commit 0 1 - - -", "commit 0 1 1 9,9,9 -", "commit 0 1 7 7 7"} {
		b := a.Copy()
		accepts(t, b, s, "commit 1 2", "commit 2 3 65535,0")
		tells(t, b, 0, 3)
	}
	accepts(t, a, "commit 2 3 -", "commit 1 2")
	if e := a.Step(api.Event{Kind: api.Commit, ID: 1, Reads: [][]uint16{nil, {}, nil}}); e != api.OK {
		t.Errorf("empty lists: %d", e)
	}
	b := after(t, appends, "begin 0 1 append 0 1")
	if e := b.Step(api.Event{Kind: api.Commit, ID: 1, Reads: [][]uint16{}}); e != api.OK {
		t.Errorf("an empty list of lists: %d", e)
	}
}

// TestBehindInfo is P7.3: behind its Info a client has nothing open, and may open something else; what it had open cannot be ended any more.
func TestBehindInfo(t *testing.T) {
	a := after(t, queues, "invoke 4 2 0 enq 1", "invoke 5 3 0 deq", "info 4 2")
	tells(t, a, 1, 3, 5)
	refuses(t, a, api.ErrNone, "return 4 2 done", "info 4 2", "return 4 3 none", "info 4 3")
	refuses(t, a, api.ErrThere, "invoke 4 2 0 enq 1", "invoke 4 3 0 deq")
	refuses(t, a, api.ErrForeign, "invoke 4 4 0 read", "abort 4 2")
	accepts(t, a, "invoke 4 4 0 enq 1")
	refuses(t, a, api.ErrNone, "return 4 2 done", "info 4 2")
	refuses(t, a, api.ErrBusy, "invoke 4 5 0 deq")
	tells(t, a, 2, 4, 4, 5)
	accepts(t, a, "return 4 4 done", "info 5 3", "invoke 5 5 0 deq", "info 5 5")
	tells(t, a, 0, 5)

	b := after(t, appends, "begin 4 2 read 0 append 0 7", "info 4 2")
	tells(t, b, 0, 2)
	refuses(t, b, api.ErrNone, "commit 4 2 -", "commit 4 2", "abort 4 2", "info 4 2")
	refuses(t, b, api.ErrThere, "begin 4 2 read 0", "begin 4 3 append 0 7")
	refuses(t, b, api.ErrForeign, "begin 4 3 append 0 8 read 0", "return 4 2 done")
	accepts(t, b, "begin 4 3 append 0 8 append 1 7")
	refuses(t, b, api.ErrNone, "commit 4 2 -", "abort 4 2")
	accepts(t, b, "commit 4 3")
}

// TestBehindEnds is P7.5: behind each end a client may open something else, with a greater ID.
func TestBehindEnds(t *testing.T) {
	for _, l := range [][]string{
		{registers, "invoke 0 1 0 read", "return 0 1 value 7", "invoke 0 2 0 write 1", "info 0 2", "invoke 0 3 0 cas 0 0", "return 0 3 no", "invoke 0 65535 0 read", "return 0 65535 value 0"},
		{appends, "begin 0 1 read 0", "commit 0 1 -", "begin 0 2 read 0", "abort 0 2", "begin 0 3 read 0", "info 0 3", "begin 0 65535 append 0 0", "commit 0 65535"},
	} {
		a := history.New()
		for i, s := range l {
			refuses(t, a, []api.Errno{api.ErrState, api.ErrNone}[min(i, 1)], "info 0 0", "info 1 1", "info 15 65535")
			accepts(t, a, s)
			x, open := a.Pending(0)
			if open != (i%2 == 1) || a.Open() != i%2 || open && fmt.Sprint(x) != fmt.Sprint(of(t, s)) {
				t.Errorf("%q: %s", s, told(a))
			}
		}
		tells(t, a, 0, 65535)
	}
}
