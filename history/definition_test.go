package history_test

import (
	"fmt"
	"slices"
	"testing"

	"umpire/api"
	"umpire/event"
	"umpire/history"
	"umpire/op"
	"umpire/result"
	"umpire/text"
)

// past are events that were accepted, in order. What may follow them is worked out by the definitions, from all of them each time.
type past []api.Event

// opening tells whether x invokes or begins something.
func opening(x api.Event) bool { return x.Kind == api.Invoke || x.Kind == api.Begin }

func (p past) config() (api.Config, bool) {
	if len(p) == 0 {
		return api.Config{}, false
	}
	return p[0].Config, true
}

// pending is the last event of the client, if this opens something.
func (p past) pending(client uint8) (api.Event, bool) {
	for _, x := range slices.Backward(p) {
		if x.Kind != api.Configure && x.Client == client {
			if opening(x) {
				return x, true
			}
			break
		}
	}
	return api.Event{}, false
}

func (p past) open() int {
	n := 0
	for client := range uint8(16) {
		if _, ok := p.pending(client); ok {
			n++
		}
	}
	return n
}

func (p past) last() int {
	n := -1
	for _, x := range p {
		if opening(x) {
			n = max(n, int(x.ID))
		}
	}
	return n
}

// told is what an automaton that has accepted p is to tell.
func (p past) told() string {
	c, configured := p.config()
	s := fmt.Sprint(c, configured, p.open(), p.last())
	for client := range uint8(16) {
		if x, ok := p.pending(client); ok {
			s += fmt.Sprint(" ", client, ok, x)
		}
	}
	return s
}

// next is what Step of x is to return.
func (p past) next(x api.Event) api.Errno {
	c, configured := p.config()
	_, busy := p.pending(x.Client)
	ofOps, ofTxns := x.Kind == api.Invoke || x.Kind == api.Return, x.Kind == api.Begin || x.Kind == api.Commit || x.Kind == api.Abort
	switch {
	case event.Check(x) != api.OK:
		return api.ErrForm
	case x.Kind == api.Configure && !configured:
		return api.OK
	case x.Kind == api.Configure || !configured:
		return api.ErrState
	case ofOps && c.Model == 4 || ofTxns && c.Model != 4:
		return api.ErrForeign
	case !opening(x):
		return p.ends(x)
	case busy:
		return api.ErrBusy
	case int(x.ID) <= p.last():
		return api.ErrThere
	case x.Kind == api.Invoke:
		if m, _ := op.Model(x.Op.F); m != c.Model {
			return api.ErrForeign
		}
		return api.OK
	}
	return p.begins(x.Txn)
}

// begins is what Step of a Begin of l is to return, if all is well but perhaps l.
func (p past) begins(l []api.Micro) api.Errno {
	for i, a := range l {
		for _, b := range l[i:] {
			if !a.Read && b.Read && a.Key == b.Key {
				return api.ErrForeign
			}
		}
	}
	var before []api.Micro
	for _, x := range p {
		before = append(before, x.Txn...)
	}
	for _, m := range l {
		for _, other := range before {
			if !m.Read && other == m {
				return api.ErrThere
			}
		}
		before = append(before, m)
	}
	return api.OK
}

// ends is what Step of a Return, Info, Commit or Abort is to return.
func (p past) ends(x api.Event) api.Errno {
	y, open := p.pending(x.Client)
	reads := 0
	for _, m := range y.Txn {
		if m.Read {
			reads++
		}
	}
	switch {
	case !open || y.ID != x.ID:
		return api.ErrNone
	case x.Kind == api.Return:
		if s, _ := result.Text(x.Res); !slices.Contains(kindsOf()[y.Op.F], s) {
			return api.ErrForeign
		}
	case x.Kind == api.Commit && len(x.Reads) != reads:
		return api.ErrForeign
	}
	return api.OK
}

// fields are lines of events without clients and IDs, by their first words.
func fields() map[string][]string {
	return map[string][]string{
		"invoke": {"0 read", "1 write 7", "2 cas 0 1", "0 enq 7", "7 deq", "0 get 7", "0 put 1 7", "0 del 0", "0 swap 1 2 3", "0 acquire", "1 release"},
		"return": {"done", "value 0", "value 7", "none", "yes", "no"},
		"info":   {""}, "abort": {""},
		"begin": {
			"read 0", "read 0 read 0", "append 0 7", "append 0 8", "append 1 7", "append 0 7 append 0 7", "append 0 9 append 1 9 append 0 10", "read 0 append 0 9", "append 0 9 read 0",
			"append 0 9 read 1 append 2 1", "append 1 7 append 0 7 read 1", "append 0 7 read 1 read 0", "append 7 65535", "read 0 read 1 read 2 read 3 read 4 read 5 read 6 read 7",
		},
		"commit": {"", "-", "7", "- 7,8", "7 8 9", "- - - - - - - -"},
	}
}

// anything are the events of each kind, valid or not, by these clients and with these IDs.
func anything(clients []uint8, ids []uint16) []api.Event {
	l := notValid()
	for _, s := range models() {
		x, _ := text.Parse(s)
		l = append(l, x)
	}
	for _, name := range []string{"invoke", "return", "info", "abort", "begin", "commit"} {
		for _, s := range fields()[name] {
			line := name + " 0 0 " + s
			if s == "" {
				line = name + " 0 0"
			}
			x, e := text.Parse(line)
			if e != api.OK {
				panic(line)
			}
			for _, x.Client = range clients {
				for _, x.ID = range ids {
					l = append(l, x)
				}
			}
		}
	}
	return l
}

// histories are scripts whose events are all accepted.
func histories() [][]string {
	return [][]string{
		{registers, "invoke 0 0 0 read", "invoke 1 1 1 write 7", "return 0 0 value 0", "invoke 15 5 0 cas 1 2", "info 1 1", "return 15 5 no", "invoke 1 6 0 read", "invoke 0 65535 0 write 1", "return 0 65535 done"},
		{queues, "invoke 15 5 0 enq 1", "return 15 5 done", "invoke 0 6 0 deq", "invoke 1 7 7 deq", "return 1 7 none", "info 0 6"},
		{maps, "invoke 0 1 0 get 7", "invoke 1 2 0 put 7 7", "invoke 15 5 0 del 1", "return 0 1 none", "invoke 0 6 0 swap 1 2 3", "return 1 2 done", "return 15 5 no", "return 0 6 yes"},
		{locks, "invoke 1 0 0 acquire", "return 1 0 yes", "invoke 15 1 0 acquire", "invoke 1 5 0 release", "return 15 1 no", "return 1 5 yes"},
		{appends, "begin 0 0 read 0", "begin 1 1 append 0 7 append 1 8", "commit 0 0 -", "begin 15 5 read 0 read 1 append 0 8", "abort 1 1", "info 15 5", "begin 1 6 append 1 7 read 0", "commit 1 6 7,8"},
		{appends, "begin 15 1 append 0 7", "info 15 1", "begin 15 2 append 1 7 append 0 9", "commit 15 2", "begin 0 5 read 7", "begin 1 6 read 0 append 0 10 append 2 1", "begin 15 65535 append 0 8", "abort 0 5", "abort 15 65535"},
	}
}

// TestEachEvent is P7.1 to P7.4 and P7.6: in each state each event is accepted or refused as defined, and a refused one changes nothing.
func TestEachEvent(t *testing.T) {
	l := anything([]uint8{0, 1, 14, 15}, []uint16{0, 1, 2, 5, 6, 7, 8, 65535})
	counts := map[api.Errno]int{}
	for _, h := range histories() {
		a, p := history.New(), past{}
		for i := range len(h) + 1 {
			if told(a) != p.told() {
				t.Fatalf("%q: %s, and not %s", h[:i], told(a), p.told())
			}
			for _, x := range l {
				b, want := a.Copy(), p.next(x)
				e := b.Step(x)
				counts[e]++
				q := p
				if want == api.OK {
					q = append(p[:len(p):len(p)], x)
				}
				if e != want || told(b) != q.told() {
					t.Fatalf("%q, then %v: %d, and not %d; %s, and not %s", h[:i], x, e, want, told(b), q.told())
				}
			}
			if i < len(h) {
				accepts(t, a, h[i])
				p = append(p, of(t, h[i]))
			}
		}
	}
	for _, e := range []api.Errno{api.OK, api.ErrForm, api.ErrNone, api.ErrThere, api.ErrBusy, api.ErrForeign, api.ErrState} {
		if counts[e] < 100 {
			t.Errorf("error %d only %d times", e, counts[e])
		}
	}
}

// sequence is a source of numbers that look like chance, and are the same each time.
type sequence uint32

// below is the next number, which is less than n.
func (s *sequence) below(n int) int {
	*s = *s*1664525 + 1013904223
	return int(*s>>8) % n
}

// some is an event of which the last ID, and what is open, make it rather likely that it may follow.
func some(s *sequence, l []api.Event, p past) api.Event {
	x := l[s.below(len(l))]
	for x.Kind == api.Configure && s.below(20) > 0 {
		x = l[s.below(len(l))]
	}
	if y, open := p.pending(x.Client); open && !opening(x) && s.below(4) > 0 {
		x.ID = y.ID
	}
	if opening(x) {
		x.ID = uint16(max(0, p.last()+s.below(5)))
		x.Txn = slices.Clone(x.Txn)
		for i, m := range x.Txn {
			if !m.Read && s.below(3) > 0 {
				x.Txn[i].V = uint16(s.below(60))
			}
		}
	}
	return x
}

// walk is a sequence of events that begins with that configuration, and which of them may follow those before them.
func walk(s *sequence, config api.Event, n int) (l []api.Event, p past) {
	from := anything([]uint8{0, 1, 2, 7, 15}, []uint16{0})
	l = append(l, config)
	p = append(p, config)
	for range n {
		x := some(s, from, p)
		for tries := 0; p.next(x) != api.OK && tries < 6; tries++ {
			x = some(s, from, p)
		}
		if p.next(x) == api.OK {
			p = append(p, x)
		}
		l = append(l, x)
	}
	return l, p
}

// walks calls what is done with a walk for some of each model.
func walks(t *testing.T, do func(l []api.Event, p past)) {
	t.Helper()
	s := sequence(7)
	for _, c := range models() {
		for range 6 {
			do(walk(&s, of(t, c), 400))
		}
	}
}

// TestWalks is P7.1 to P7.4 and P7.6: long sequences of events, of which some are refused and make no difference.
func TestWalks(t *testing.T) {
	walks(t, func(l []api.Event, accepted past) {
		a, only, p := history.New(), history.New(), past{}
		for _, x := range l {
			want := p.next(x)
			if e := a.Step(x); e != want {
				t.Fatalf("%v: %d, and not %d", x, e, want)
			}
			if want == api.OK {
				p = append(p, x)
				if e := only.Step(x); e != api.OK {
					t.Fatalf("%v: %d without what was refused", x, e)
				}
			}
			if told(a) != p.told() || told(only) != p.told() {
				t.Fatalf("%v: %s, %s, and not %s", x, told(a), told(only), p.told())
			}
		}
		if len(accepted) < 60 || len(accepted) > len(l)-60 {
			t.Fatalf("%d of %d events are accepted", len(accepted), len(l))
		}
		allIs(t, len(accepted), api.OK, accepted...)
		if n, e := history.All(l); e == api.OK || past(l[:n]).next(l[n]) != e {
			t.Errorf("All: %d, %d", n, e)
		}
	})
}

// TestAlternate is P7.5: what each client opens and what ends it alternate, with one ID; IDs ascend over all clients.
func TestAlternate(t *testing.T) {
	walks(t, func(l []api.Event, _ past) {
		a, last, open := history.New(), -1, map[uint8]api.Event{}
		for _, x := range l {
			if a.Step(x) != api.OK || x.Kind == api.Configure {
				continue
			}
			y, busy := open[x.Client]
			switch {
			case busy == opening(x) || busy && y.ID != x.ID:
				t.Fatalf("%v behind %v", x, y)
			case busy:
				delete(open, x.Client)
			case int(x.ID) <= last:
				t.Fatalf("%v behind ID %d", x, last)
			default:
				open[x.Client], last = x, int(x.ID)
			}
			if a.Open() != len(open) || a.Last() != last {
				t.Fatalf("%v: %s", x, told(a))
			}
		}
	})
}

// endings are the events that may end what the client has open.
func endings(a *history.Automaton, client uint8) []api.Event {
	x, open := a.Pending(client)
	if !open {
		return nil
	}
	var l []api.Event
	for _, y := range anything([]uint8{client}, []uint16{x.ID}) {
		if !opening(y) && y.Kind != api.Configure && a.Copy().Step(y) == api.OK {
			l = append(l, y)
		}
	}
	return l
}

// TestExchange is P7.6: two ending events of different clients can be exchanged.
func TestExchange(t *testing.T) {
	pairs := 0
	next := anything([]uint8{0, 15}, []uint16{0, 9, 65535})
	for _, h := range histories() {
		for n := range h {
			a := after(t, h[:n]...)
			for one := range uint8(16) {
				for other := range one {
					for _, x := range endings(a, one) {
						for _, y := range endings(a, other) {
							pairs++
							b, c := a.Copy(), a.Copy()
							if b.Step(x) != api.OK || b.Step(y) != api.OK || c.Step(y) != api.OK || c.Step(x) != api.OK || told(b) != told(c) {
								t.Fatalf("%q, then %v and %v: %s, %s", h[:n], x, y, told(b), told(c))
							}
							for _, z := range next[pairs%7:] {
								if e, f := b.Copy().Step(z), c.Copy().Step(z); e != f {
									t.Fatalf("%q, then %v and %v, then %v: %d, %d", h[:n], x, y, z, e, f)
								}
							}
						}
					}
				}
			}
		}
	}
	if pairs < 50 {
		t.Errorf("%d pairs", pairs)
	}
}

// TestAnyFields is P7.7: no call panics, whatever the fields are.
func TestAnyFields(t *testing.T) {
	for _, h := range histories() {
		a := after(t, h[:4]...)
		before := told(a)
		for kind := range 256 {
			for _, client := range []uint8{0, 15, 16, 255} {
				for _, x := range []api.Event{
					{}, {ID: 65535, Op: api.Op{F: 255, Obj: 255, Key: 255, A: 1, B: 1}, Res: api.Result{K: 255, V: 1}}, {Txn: make([]api.Micro, 300)}, {Txn: []api.Micro{{Read: true, Key: 255, V: 1}, {Key: 255}}},
					{Reads: make([][]uint16, 300)}, {Reads: [][]uint16{make([]uint16, 300)}}, {Config: api.Config{Model: 255, MaxOpen: -1}}, {ID: 65535, Txn: []api.Micro{{Key: 8}}}, {ID: 9},
				} {
					x.Kind, x.Client = uint8(kind), client
					b, want := a.Copy(), past(all(t, h[:4]...)).next(x)
					if e := b.Step(x); e != want || e != api.OK && told(b) != before {
						t.Fatalf("%.200s: %d, and not %d", fmt.Sprint(x), e, want)
					}
				}
			}
		}
	}
}
