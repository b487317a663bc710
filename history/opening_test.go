package history_test

import (
	"fmt"
	"strconv"
	"strings"
	"testing"

	"umpire/api"
	"umpire/history"
)

// opened are the automata of all models, and for each of them a line of what may be opened, with a place for the client and the ID.
func opened(t *testing.T) map[string]*history.Automaton {
	t.Helper()
	return map[string]*history.Automaton{
		"invoke %d %d 0 read": after(t, registers), "invoke %d %d 7 enq 65535": after(t, queues), "invoke %d %d 0 get 0": after(t, maps),
		"invoke %d %d 3 release": after(t, locks), "begin %d %d read 7": after(t, appends),
	}
}

// ended is an Info for each client that has something open.
func ended(a *history.Automaton) {
	for client := range uint8(16) {
		if x, ok := a.Pending(client); ok {
			a.Step(api.Event{Kind: api.Info, Client: client, ID: x.ID})
		}
	}
}

// TestIDsAscend is P7.2: an ID must be greater than all before it, over all clients, whatever became of these.
func TestIDsAscend(t *testing.T) {
	for form, a := range opened(t) {
		line := func(client, id int) string { return fmt.Sprintf(form, client, id) }
		accepts(t, a, line(0, 0))
		refuses(t, a, api.ErrThere, line(1, 0), line(15, 0))
		accepts(t, a, line(1, 1))
		refuses(t, a, api.ErrThere, line(2, 0), line(2, 1))
		accepts(t, a, "info 1 1")
		refuses(t, a, api.ErrThere, line(1, 0), line(1, 1), line(15, 1))
		accepts(t, a, line(15, 255), line(1, 256))
		refuses(t, a, api.ErrThere, line(2, 0), line(2, 2), line(2, 254), line(2, 255), line(2, 256))
		tells(t, a, 3, 256, 0, 1, 15)
		accepts(t, a, line(2, 300))
		ended(a)
		tells(t, a, 0, 300)
		for id := range 301 {
			refuses(t, a, api.ErrThere, line(id%16, id))
		}
		accepts(t, a.Copy(), line(0, 301))
		accepts(t, a, line(0, 65535))
		refuses(t, a, api.ErrThere, line(1, 0), line(1, 1), line(1, 65534), line(1, 65535))
		accepts(t, a, "info 0 65535")
		refuses(t, a, api.ErrThere, line(0, 0), line(0, 302), line(0, 65535))
		tells(t, a, 0, 65535)
	}
}

// TestFirstID is P7.2: the first ID may be any, and the greatest is the last one then.
func TestFirstID(t *testing.T) {
	for _, id := range []int{0, 1, 2, 255, 256, 32767, 32768, 65534, 65535} {
		for form, a := range opened(t) {
			accepts(t, a, fmt.Sprintf(form, 15, id))
			tells(t, a, 1, id, 15)
			if id > 0 {
				refuses(t, a, api.ErrThere, fmt.Sprintf(form, 0, id-1))
			}
			refuses(t, a, api.ErrThere, fmt.Sprintf(form, 0, id), fmt.Sprintf(form, 0, 0))
			if id < 65535 {
				accepts(t, a, fmt.Sprintf(form, 0, id+1))
				tells(t, a, 2, id+1, 0, 15)
			}
		}
	}
}

// TestEachClient is P7.2: each client may have one thing open, at the same time as all others.
func TestEachClient(t *testing.T) {
	for form, a := range opened(t) {
		var who []uint8
		for client := range 16 {
			accepts(t, a, fmt.Sprintf(form, client, 10*client))
			who = append(who, uint8(client))
			tells(t, a, client+1, 10*client, who...)
			for busy := range client + 1 {
				refuses(t, a, api.ErrBusy, fmt.Sprintf(form, busy, 10*client+1))
			}
		}
		accepts(t, a, "info 7 70", "info 0 0", "info 15 150")
		accepts(t, a, fmt.Sprintf(form, 15, 151), fmt.Sprintf(form, 0, 152))
		refuses(t, a, api.ErrBusy, fmt.Sprintf(form, 0, 153), fmt.Sprintf(form, 6, 153), fmt.Sprintf(form, 8, 153), fmt.Sprintf(form, 15, 153))
		accepts(t, a, fmt.Sprintf(form, 7, 153))
		tells(t, a, 16, 153, who...)
	}
}

// ops are words of all operations, by their models.
func ops() [][]string {
	return [][]string{
		{"0 read", "7 read", "0 write 0", "7 write 65535", "1 cas 2 3"},
		{"0 enq 0", "7 enq 65535", "2 deq"},
		{"0 get 0", "7 get 7", "1 put 2 3", "1 del 2", "1 swap 2 3 4"},
		{"0 acquire", "7 release"},
		{},
	}
}

// TestModelOfOperation is P7.2: an operation of another model is ErrForeign.
func TestModelOfOperation(t *testing.T) {
	for model, config := range models() {
		a := after(t, config)
		for other, l := range ops() {
			for i, words := range l {
				line := fmt.Sprintf("invoke %d %d %s", i, 100*other+i, words)
				if other == model {
					b := a.Copy()
					accepts(t, b, line)
					tells(t, b, 1, 100*other+i, uint8(i))
				} else {
					refuses(t, a, api.ErrForeign, line)
				}
			}
		}
		tells(t, a, 0, -1)
	}
}

// TestOrderOfErrors is P7.2: busy, then the ID, then the operation, or first reads and then numbers.
func TestOrderOfErrors(t *testing.T) {
	a := after(t, registers, "invoke 0 5 0 read")
	refuses(t, a, api.ErrBusy, "invoke 0 5 0 read", "invoke 0 4 0 read", "invoke 0 0 0 enq 1", "invoke 0 6 0 enq 1", "invoke 0 65535 0 get 0")
	refuses(t, a, api.ErrThere, "invoke 1 5 0 enq 1", "invoke 1 4 0 acquire", "invoke 15 0 0 get 0")
	refuses(t, a, api.ErrForeign, "invoke 1 6 0 enq 1", "invoke 15 65535 0 get 0")

	b := after(t, appends, "begin 0 5 append 0 7")
	refuses(t, b, api.ErrBusy, "begin 0 5 read 0", "begin 0 4 read 0", "begin 0 6 append 0 8 read 0", "begin 0 5 append 0 8 read 0", "begin 0 6 append 0 7", "begin 0 6 append 1 1 append 1 1", "begin 0 5 append 0 7")
	refuses(t, b, api.ErrThere, "begin 1 5 read 0", "begin 1 5 append 0 8 read 0", "begin 1 5 append 0 7 read 0", "begin 1 4 append 1 1 read 1", "begin 1 0 append 0 7", "begin 1 5 append 1 1 append 1 1")
	refuses(t, b, api.ErrForeign,
		"begin 1 6 append 0 8 read 0", "begin 1 6 append 0 7 read 0", "begin 1 6 append 0 7 append 1 1 read 1", "begin 1 6 append 1 1 append 1 1 read 1",
		"begin 1 6 append 1 1 read 1 append 1 1", "begin 1 6 append 1 1 append 1 1 append 2 2 read 2", "begin 1 6 append 2 2 read 2 append 1 1 append 1 1", "begin 1 6 append 2 2 read 2 append 0 7",
	)
	refuses(t, b, api.ErrThere, "begin 1 6 append 0 7", "begin 1 6 append 1 1 append 1 1", "begin 1 6 read 1 append 1 1 read 2 append 1 1", "begin 1 6 append 0 7 read 1", "begin 1 6 read 0 append 0 7")
	accepts(t, b, "begin 1 6 append 0 8")
}

// TestReadBehindAppend is P7.2: no read may come after an append of its key.
func TestReadBehindAppend(t *testing.T) {
	a := after(t, appends)
	for key := range 8 {
		with := strings.NewReplacer("K", strconv.Itoa(key), "O", strconv.Itoa((key+1)%8))
		for _, s := range []string{
			"append K 7 read K", "read K append K 7 read K", "append K 7 read O read O append O 8 read K", "append K 7 append O 7 read K", "append K 7 append O 7 read O",
			"append K 7 append K 8 append K 9 append O 7 append O 8 append O 9 read O read K", "read O read O read O read O read O read O append K 7 read K",
		} {
			refuses(t, a, api.ErrForeign, with.Replace("begin 0 1 "+s))
		}
		for _, s := range []string{
			"read K append K 7", "append K 7 read O", "read K read K append K 7 append K 8 read O", "read K read O append K 0 append O 0", "read K read K read K read K read K read K read K append K 7",
			"append K 7 append K 8 append K 9 read O append O 7", "append K 7 append O 7", "read K read O read K",
		} {
			b := a.Copy()
			accepts(t, b, with.Replace("begin 0 1 "+s))
			tells(t, b, 1, 1, 0)
		}
	}
}

// TestNumberTwice is P7.2: no number may be appended to a key twice in a transaction; to another key it may.
func TestNumberTwice(t *testing.T) {
	a := after(t, appends)
	refuses(t, a, api.ErrThere,
		"begin 0 1 append 0 0 append 0 0", "begin 0 1 append 7 65535 append 7 65535", "begin 0 1 append 0 7 append 0 8 append 0 7", "begin 0 1 append 0 7 append 1 7 read 2 append 0 7",
		"begin 0 1 append 1 1 append 1 2 append 1 3 append 1 4 append 1 5 append 1 6 append 1 7 append 1 1", "begin 0 1 read 1 append 1 1 append 1 2 append 1 3 append 1 4 append 1 5 append 1 6 append 1 6",
	)
	accepts(t, a, "begin 0 1 append 0 7 append 1 7 append 0 8 append 7 7 append 0 263 append 0 0 append 7 0 append 0 65535", "begin 1 2 append 1 8 append 0 1 append 1 0")
	refuses(t, a, api.ErrThere, "begin 2 3 append 0 7", "begin 2 3 append 1 7", "begin 2 3 append 0 8", "begin 2 3 append 7 7", "begin 2 3 append 0 263", "begin 2 3 append 0 0", "begin 2 3 append 7 0", "begin 2 3 append 0 65535", "begin 2 3 append 1 8", "begin 2 3 append 0 1", "begin 2 3 append 1 0")
	accepts(t, a, "begin 2 3 append 2 7 append 1 263 append 7 8 append 2 0")
}

// TestNumberOfEarlier is P7.2: no number may be appended to a key to which any transaction before appended it, whatever became of this one.
func TestNumberOfEarlier(t *testing.T) {
	for _, end := range []string{"", "commit 0 1 -", "commit 0 1 1,2,7", "abort 0 1", "info 0 1"} {
		a := after(t, appends, "begin 0 1 read 3 append 3 7 append 4 8")
		if end != "" {
			accepts(t, a, end)
		}
		for round := range 3 {
			refuses(t, a, api.ErrThere,
				"begin 1 50 append 3 7", "begin 15 50 append 4 8", "begin 1 65535 append 3 9 append 3 7", "begin 1 50 append 3 7 append 3 9", "begin 1 50 read 3 append 3 7", "begin 1 50 read 0 append 5 7 append 4 8 read 1",
			)
			refuses(t, a, api.ErrForeign, "begin 1 50 append 3 7 read 3", "begin 1 50 append 3 9 read 3")
			for _, s := range []string{"begin 1 50 append 4 7", "begin 1 50 append 3 8", "begin 1 50 append 3 9", "begin 1 50 append 2 7 append 5 7 append 3 6", "begin 1 50 read 3 append 3 8 append 4 7", "begin 1 50 read 3 read 4"} {
				accepts(t, a.Copy(), s)
			}
			id := 2 + round
			accepts(t, a, fmt.Sprintf("begin 2 %d read 3 append 3 %d", id, 100+id), []string{"abort 2 2", "info 2 3", "commit 2 4 7"}[round])
		}
		refuses(t, a, api.ErrThere, "begin 1 50 append 3 102", "begin 1 50 append 3 103", "begin 1 50 append 3 104")
		accepts(t, a, "begin 1 50 append 4 102 append 4 103 append 4 104")
	}
}

// TestRefusedNumbers is P7.2 and P7.6: what a Begin that was refused would have appended may be appended.
func TestRefusedNumbers(t *testing.T) {
	a := after(t, appends, "begin 0 5 append 0 7")
	refuses(t, a, api.ErrBusy, "begin 0 6 append 1 1 append 1 2")
	refuses(t, a, api.ErrThere, "begin 1 5 append 1 1", "begin 1 6 append 1 1 append 0 7 append 1 2", "begin 1 6 append 1 1 append 1 2 append 1 1")
	refuses(t, a, api.ErrForeign, "begin 1 6 append 1 1 append 1 2 read 1", "commit 0 5 1")
	accepts(t, a, "begin 1 6 append 1 1 append 1 2")
	refuses(t, a, api.ErrThere, "begin 2 7 append 1 1", "begin 2 7 append 1 2")
	b := after(t, locks, "invoke 0 1 0 acquire")
	refuses(t, b, api.ErrBusy, "invoke 0 2 0 acquire")
	refuses(t, b, api.ErrThere, "invoke 1 1 0 acquire")
	refuses(t, b, api.ErrForeign, "invoke 1 9 0 read", "begin 1 9 append 0 7")
	accepts(t, b, "invoke 1 2 0 acquire")
	tells(t, b, 2, 2, 0, 1)
}

// TestManyNumbers is P7.2: all numbers of all keys may be appended, once.
func TestManyNumbers(t *testing.T) {
	a := after(t, appends)
	txn := func(n int) []api.Micro {
		var l []api.Micro
		for key := range uint8(8) {
			l = append(l, api.Micro{Key: key, V: uint16(n)*257 + uint16(key)})
		}
		return l
	}
	for n := range 65536 {
		if e := a.Step(api.Event{Kind: api.Begin, ID: uint16(n), Txn: txn(n)}); e != api.OK {
			t.Fatalf("%d: %d", n, e)
		}
		if e := a.Step(api.Event{Kind: api.Begin, Client: 1, ID: uint16(n + 1), Txn: txn(n / 2)[n%8:]}); e != api.ErrThere {
			t.Fatalf("%d once more: %d", n/2, e)
		}
		if e := a.Step(api.Event{Kind: api.Abort, ID: uint16(n)}); e != api.OK {
			t.Fatalf("%d: %d", n, e)
		}
	}
	tells(t, a, 0, 65535)
}
