package history_test

import (
	"fmt"
	"slices"
	"testing"

	"umpire/api"
	"umpire/history"
	"umpire/text"
)

// The configurations, one of each model.
const (
	registers = "config register 8 10 100 cut"
	queues    = "config queue 1 1 1"
	maps      = "config map 32 4096 1048576 partition cut memo"
	locks     = "config lock 8 10 100 memo"
	appends   = "config append 8 10 100 partition"
)

// models are the configurations in the order of their models.
func models() []string { return []string{registers, queues, maps, locks, appends} }

// of is the event with that line.
func of(t *testing.T, line string) api.Event {
	t.Helper()
	x, e := text.Parse(line)
	if e != api.OK {
		t.Fatalf("%q is no line", line)
	}
	return x
}

// all are the events with these lines.
func all(t *testing.T, lines ...string) []api.Event {
	t.Helper()
	var l []api.Event
	for _, s := range lines {
		l = append(l, of(t, s))
	}
	return l
}

// clients are those that there are, and some that there are not.
func clients() []uint8 {
	return []uint8{0, 1, 2, 3, 4, 5, 6, 7, 8, 9, 10, 11, 12, 13, 14, 15, 16, 17, 31, 32, 128, 144, 255}
}

// told is all that an automaton tells of itself.
func told(a *history.Automaton) string {
	c, configured := a.Config()
	s := fmt.Sprint(c, configured, a.Open(), a.Last())
	for _, client := range clients() {
		if x, open := a.Pending(client); open || x.Kind != 0 {
			s += fmt.Sprint(" ", client, open, x)
		}
	}
	return s
}

// after is an automaton that has accepted the events with these lines.
func after(t *testing.T, lines ...string) *history.Automaton {
	t.Helper()
	a := history.New()
	accepts(t, a, lines...)
	return a
}

// accepts tells whether a accepts the events with these lines, one after the other.
func accepts(t *testing.T, a *history.Automaton, lines ...string) {
	t.Helper()
	for _, s := range lines {
		if e := a.Step(of(t, s)); e != api.OK {
			t.Fatalf("%q: %d", s, e)
		}
	}
}

// refuses tells whether a refuses each of the events with these lines with that error.
func refuses(t *testing.T, a *history.Automaton, want api.Errno, lines ...string) {
	t.Helper()
	refusesEvents(t, a, want, all(t, lines...)...)
}

// refusesEvents tells whether a refuses each of these events with that error, twice, and tells the same of itself as before.
func refusesEvents(t *testing.T, a *history.Automaton, want api.Errno, l ...api.Event) {
	t.Helper()
	before := told(a)
	for _, x := range l {
		for range 2 {
			if e := a.Step(x); e != want {
				t.Errorf("%.200s: %d, and not %d", fmt.Sprint(x), e, want)
			}
		}
		if now := told(a); now != before {
			t.Fatalf("%.200s: from %s to %s", fmt.Sprint(x), before, now)
		}
	}
}

// tells tells whether Open and Last are these, and these clients have something open.
func tells(t *testing.T, a *history.Automaton, open, last int, who ...uint8) {
	t.Helper()
	if a.Open() != open || a.Last() != last {
		t.Errorf("Open %d, Last %d, and not %d, %d", a.Open(), a.Last(), open, last)
	}
	for _, client := range clients() {
		x, ok := a.Pending(client)
		if ok != slices.Contains(who, client) || ok == (x.Kind == 0) || ok && x.Client != client || !ok && fmt.Sprint(x) != fmt.Sprint(api.Event{}) {
			t.Errorf("Pending of %d: %v, %t", client, x, ok)
		}
	}
}

// notValid are events of each kind, and of none, that are not valid.
func notValid() []api.Event {
	read := api.Op{F: api.Read}
	return []api.Event{
		{}, {Kind: 8}, {Kind: 255}, {Kind: 0, Op: read}, {Kind: 128 + api.Invoke, Op: read},
		{Kind: api.Configure}, {Kind: api.Configure, Config: api.Config{Model: 5, MaxOpen: 1, MaxStates: 1, MaxSteps: 1}}, {Kind: api.Configure, Config: api.Config{MaxOpen: 33, MaxStates: 1, MaxSteps: 1}},
		{Kind: api.Configure, Client: 1, Config: api.Config{MaxOpen: 1, MaxStates: 1, MaxSteps: 1}},
		{Kind: api.Invoke, ID: 9}, {Kind: api.Invoke, Client: 16, ID: 9, Op: read}, {Kind: api.Invoke, ID: 9, Op: api.Op{F: 12}}, {Kind: api.Invoke, ID: 9, Op: api.Op{F: api.Read, Obj: 8}},
		{Kind: api.Invoke, ID: 9, Op: api.Op{F: api.Get, Key: 8}}, {Kind: api.Invoke, ID: 9, Op: api.Op{F: api.Enq, B: 1}}, {Kind: api.Invoke, ID: 9, Op: read, Txn: make([]api.Micro, 1)},
		{Kind: api.Return, Client: 16}, {Kind: api.Return, Res: api.Result{K: 5}}, {Kind: api.Return, Res: api.Result{K: api.Done, V: 1}}, {Kind: api.Return, Reads: make([][]uint16, 1)},
		{Kind: api.Info, Client: 16}, {Kind: api.Info, Client: 255}, {Kind: api.Info, Op: read}, {Kind: api.Info, Res: api.Result{K: 1}},
		{Kind: api.Begin, ID: 9}, {Kind: api.Begin, Client: 16, ID: 9, Txn: make([]api.Micro, 1)}, {Kind: api.Begin, ID: 9, Txn: make([]api.Micro, 9)},
		{Kind: api.Begin, ID: 9, Txn: []api.Micro{{Key: 8}}}, {Kind: api.Begin, ID: 9, Txn: []api.Micro{{Read: true, Key: 255}}}, {Kind: api.Begin, ID: 9, Txn: []api.Micro{{Read: true, V: 1}}},
		{Kind: api.Commit, Client: 16}, {Kind: api.Commit, Reads: make([][]uint16, 9)}, {Kind: api.Commit, Reads: [][]uint16{make([]uint16, 33)}},
		{Kind: api.Abort, Client: 16}, {Kind: api.Abort, Txn: make([]api.Micro, 1)}, {Kind: api.Abort, Reads: make([][]uint16, 1)},
	}
}

// ofEachKind are lines of events of each kind but Configure.
func ofEachKind() []string {
	return []string{"invoke 0 5 0 read", "return 0 5 done", "info 0 5", "begin 0 5 read 0", "commit 0 5", "abort 0 5"}
}

// TestNew is P7.1: an automaton that has accepted nothing.
func TestNew(t *testing.T) {
	a, b := history.New(), history.New()
	tells(t, a, 0, -1)
	if c, ok := a.Config(); ok || c != (api.Config{}) {
		t.Errorf("Config: %v, %t", c, ok)
	}
	accepts(t, a, registers, "invoke 0 1 0 read")
	tells(t, b, 0, -1)
	accepts(t, b, appends)
	tells(t, a, 1, 1, 0)
	tells(t, history.New(), 0, -1)
}

// TestNotMade is P7.1: nil, and an automaton that neither New nor Copy returned.
func TestNotMade(t *testing.T) {
	for name, a := range map[string]*history.Automaton{"nil": nil, "zero": {}, "new": new(history.Automaton)} {
		for range 2 {
			for _, x := range slices.Concat(all(t, models()...), all(t, ofEachKind()...), notValid()) {
				if e := a.Step(x); e != api.ErrNil {
					t.Errorf("%s: Step of %v: %d", name, x, e)
				}
			}
			tells(t, a, 0, -1)
			if c, ok := a.Config(); ok || c != (api.Config{}) {
				t.Errorf("%s: Config: %v, %t", name, c, ok)
			}
			if b := a.Copy(); b != nil {
				t.Errorf("%s: Copy: %v", name, b)
			}
		}
	}
}

// TestNotValid is P7.1: an event that is not valid is ErrForm, whatever else holds.
func TestNotValid(t *testing.T) {
	for _, a := range []*history.Automaton{
		history.New(), after(t, registers), after(t, queues, "invoke 0 9 0 deq"), after(t, maps, "invoke 0 0 0 get 7"), after(t, locks, "invoke 0 65535 0 acquire"),
		after(t, appends), after(t, appends, "begin 0 0 read 0"), after(t, appends, "begin 0 65535 append 0 0"),
	} {
		refusesEvents(t, a, api.ErrForm, notValid()...)
	}
}

// TestAheadOfConfiguration is P7.1: nothing may be ahead of a configuration.
func TestAheadOfConfiguration(t *testing.T) {
	a := history.New()
	for _, s := range models() {
		refuses(t, a, api.ErrState, ofEachKind()...)
		refuses(t, a, api.ErrState, "info 15 0", "abort 15 65535", "commit 1 1 1,2 -", "begin 1 1 append 0 7 read 0", "begin 1 1 append 0 7 append 0 7", "invoke 15 65535 7 swap 7 1 2")
		accepts(t, a.Copy(), s)
	}
	accepts(t, a, appends, "begin 1 1 append 0 7")
}

// TestConfiguration is P7.1 and P7.4: each configuration may be the first event, and none may be another one.
func TestConfiguration(t *testing.T) {
	for _, s := range models() {
		a := history.New()
		for range 3 {
			if e := a.Step(of(t, s)); a.Open() != 0 || a.Last() != -1 || e != api.OK && e != api.ErrState {
				t.Errorf("%q: %d, %s", s, e, told(a))
			}
			if c, ok := a.Config(); !ok || c != of(t, s).Config {
				t.Errorf("Config: %v, %t", c, ok)
			}
			refuses(t, a, api.ErrState, models()...)
		}
		accepts(t, a, map[string]string{registers: "invoke 0 0 0 read", queues: "invoke 0 0 0 deq", maps: "invoke 0 0 0 get 0", locks: "invoke 0 0 0 acquire", appends: "begin 0 0 read 0"}[s])
		refuses(t, a, api.ErrState, models()...)
		accepts(t, a, "info 0 0")
		refuses(t, a, api.ErrState, models()...)
	}
}

// TestOtherModel is P7.1: transactions under a model of operations, and operations under that of transactions; an Info under both.
func TestOtherModel(t *testing.T) {
	for _, c := range []struct{ config, opens, ends string }{
		{registers, "invoke 1 5 0 write 7", "return 1 5 done"},
		{queues, "invoke 1 5 0 deq", "return 1 5 none"},
		{maps, "invoke 1 5 0 put 1 7", "return 1 5 done"},
		{locks, "invoke 1 5 0 acquire", "return 1 5 yes"},
		{appends, "begin 1 5 read 0 append 1 2", "commit 1 5 7,8"},
		{appends, "begin 1 5 read 0 append 1 2", "abort 1 5"},
	} {
		foreign := []string{"begin 0 6 append 0 7", "begin 1 5 append 0 7 append 0 7", "begin 1 4 append 0 7 read 0", "commit 0 6", "commit 1 5", "commit 1 5 7,8", "abort 0 6", "abort 1 5"}
		if c.config == appends {
			foreign = []string{"invoke 0 6 0 read", "invoke 1 5 0 deq", "invoke 1 4 0 get 1", "return 0 6 done", "return 1 5 value 7", "return 1 5 none"}
		}
		a := after(t, c.config)
		refuses(t, a, api.ErrForeign, foreign...)
		accepts(t, a, c.opens)
		refuses(t, a, api.ErrForeign, foreign...)
		b := a.Copy()
		accepts(t, a, c.ends)
		accepts(t, b, "info 1 5")
		for _, d := range []*history.Automaton{a, b} {
			refuses(t, d, api.ErrForeign, foreign...)
			refuses(t, d, api.ErrNone, "info 1 5", "info 0 6")
			tells(t, d, 0, 5)
		}
	}
}

// TestExamples are the chapter's examples.
func TestExamples(t *testing.T) {
	a := history.New()
	refuses(t, a, api.ErrState, "invoke 0 5 0 read")
	accepts(t, a, registers)
	refuses(t, a, api.ErrState, registers)
	refuses(t, a, api.ErrForeign, "begin 0 5 read 0")

	accepts(t, a, "invoke 0 5 0 read")
	refuses(t, a, api.ErrBusy, "invoke 0 6 0 read")
	refuses(t, a, api.ErrThere, "invoke 1 5 0 read")
	refuses(t, a, api.ErrForeign, "invoke 1 6 0 enq 1")
	accepts(t, a, "invoke 1 6 0 write 1")

	refuses(t, a, api.ErrNone, "return 0 6 value 0")
	refuses(t, a, api.ErrForeign, "return 0 5 done")
	accepts(t, a, "return 0 5 value 0", "info 1 6")
	tells(t, a, 0, 6)

	b := after(t, appends)
	refuses(t, b, api.ErrForeign, "begin 0 1 append 0 7 read 0")
	refuses(t, b, api.ErrThere, "begin 0 1 append 0 7 append 0 7")
	accepts(t, b, "begin 0 1 read 0 append 0 7")
	refuses(t, b, api.ErrThere, "begin 1 2 append 0 7")

	refuses(t, b, api.ErrForeign, "commit 0 1")
	accepts(t, b, "commit 0 1 -")
	tells(t, b, 0, 1)
}
