package text_test

import (
	"fmt"
	"math"
	"slices"
	"strings"
	"testing"

	"umpire/api"
	"umpire/event"
	"umpire/op"
	"umpire/result"
	"umpire/text"
)

// ids are IDs and Vs at which the digits or the bytes of a number change, and some between them.
func ids() []uint16 {
	return []uint16{0, 1, 7, 9, 10, 11, 99, 100, 255, 256, 258, 999, 1000, 9999, 10000, 32768, 65534, 65535}
}

// configs are valid ones: each field at its least and its greatest, with each of the others.
func configs() []api.Event {
	var l []api.Event
	for n := range 5 * 8 {
		for _, open := range []int{1, 2, 9, 10, 31, 32} {
			for _, states := range []int{1, 10, 100, 4095, 4096} {
				for _, steps := range []int{1, 9, 1000, 65536, 999999, 1<<20 - 1, 1 << 20} {
					c := api.Config{Model: uint8(n / 8), MaxOpen: open, MaxStates: states, MaxSteps: steps, Partition: n&1 > 0, Cut: n&2 > 0, Memo: n&4 > 0}
					l = append(l, api.Event{Kind: api.Configure, Config: c})
				}
			}
		}
	}
	return l
}

// invokes have all operations that there are, with different numbers.
func invokes() []api.Event {
	var l []api.Event
	for f := range uint8(12) {
		for _, n := range ids() {
			for _, small := range []uint8{0, 1, 7} {
				for _, x := range []api.Op{
					{F: f, Obj: small},
					{F: f, Obj: small, A: n},
					{F: f, Obj: small, A: n, B: 65535 - n},
					{F: f, Obj: small, Key: 7 - small},
					{F: f, Obj: small, Key: 7 - small, A: n},
					{F: f, Obj: small, Key: 7 - small, A: n, B: 65535 - n},
				} {
					if _, e := op.Put(x); e == api.OK {
						l = append(l, api.Event{Kind: api.Invoke, Op: x})
					}
				}
			}
		}
	}
	return l
}

// returns have all kinds of results, with different numbers.
func returns() []api.Event {
	var l []api.Event
	for _, k := range []uint8{api.Done, api.None, api.Yes, api.No} {
		l = append(l, api.Event{Kind: api.Return, Res: api.Result{K: k}})
	}
	for _, v := range ids() {
		l = append(l, api.Event{Kind: api.Return, Res: api.Result{K: api.Value, V: v}})
	}
	return l
}

// micros are n of them, with reads where the bits of mask say so.
func micros(n int, mask uint) []api.Micro {
	var l []api.Micro
	for i := range n {
		m := api.Micro{Read: mask>>i&1 > 0, Key: uint8(i*3) % 8}
		if !m.Read {
			m.V = uint16(i)*257 + uint16(mask)
		}
		l = append(l, m)
	}
	return l
}

// begins have from 1 to 8 micros, each of them a read or an append, with all keys.
func begins() []api.Event {
	var l []api.Event
	for n := 1; n <= 8; n++ {
		for mask := range uint(1) << n {
			l = append(l, api.Event{Kind: api.Begin, Txn: micros(n, mask)})
		}
	}
	for key := range uint8(8) {
		l = append(l, api.Event{Kind: api.Begin, Txn: []api.Micro{{Read: true, Key: key}}})
		for _, v := range ids() {
			l = append(l, api.Event{Kind: api.Begin, Txn: []api.Micro{{Key: key, V: v}}})
		}
	}
	return l
}

// numbers are n of them, which differ from each other.
func numbers(n, from int) []uint16 {
	l := make([]uint16, n)
	for i := range l {
		l[i] = uint16(from + i*771)
	}
	return l
}

// commits have from 0 to 8 lists of from 0 to 32 numbers.
func commits() []api.Event {
	var l []api.Event
	for n := range 9 {
		for _, size := range []int{0, 1, 2, 31, 32} {
			even, uneven := make([][]uint16, n), make([][]uint16, n)
			for i := range n {
				even[i], uneven[i] = numbers(size, 1000*i), numbers((size+i)%33, 65535-i)
			}
			l = append(l, api.Event{Kind: api.Commit, Reads: even})
			if n > 1 {
				l = append(l, api.Event{Kind: api.Commit, Reads: uneven})
			}
		}
		if n == 0 {
			l = l[:1]
		}
	}
	return l
}

// few are one or two events of each kind, by clients that are not 0.
func few() []api.Event {
	return []api.Event{
		{Kind: api.Configure, Config: api.Config{Model: api.Map, MaxOpen: 8, MaxStates: 258, MaxSteps: 66051, Partition: true, Memo: true}},
		{Kind: api.Configure, Config: api.Config{Model: api.Append, MaxOpen: 32, MaxStates: 4096, MaxSteps: 1 << 20, Cut: true}},
		{Kind: api.Invoke, Client: 3, ID: 258, Op: api.Op{F: api.Write, Obj: 1, A: 5}},
		{Kind: api.Invoke, Client: 15, ID: 65535, Op: api.Op{F: api.Swap, Obj: 7, Key: 6, A: 258, B: 772}},
		{Kind: api.Invoke, Client: 1, ID: 2, Op: api.Op{F: api.Read}},
		{Kind: api.Return, Client: 3, ID: 258, Res: api.Result{K: api.Value, V: 7}},
		{Kind: api.Return, Client: 3, ID: 258, Res: api.Result{K: api.Yes}},
		{Kind: api.Info, Client: 3, ID: 258},
		{Kind: api.Begin, Client: 1, ID: 9, Txn: []api.Micro{{Read: true, Key: 2}, {Key: 2, V: 6}}},
		{Kind: api.Begin, Client: 1, ID: 9, Txn: micros(8, 0b10011010)},
		{Kind: api.Commit, Client: 1, ID: 9, Reads: [][]uint16{{4, 5}}},
		{Kind: api.Commit, Client: 2, ID: 3, Reads: [][]uint16{{}, {258}, nil, {1, 2, 3}}},
		{Kind: api.Commit, Client: 15, ID: 1},
		{Kind: api.Abort, Client: 2, ID: 515},
	}
}

// valid are valid events of each kind, no two of them the same.
func valid() []api.Event {
	l := configs()
	for i, x := range slices.Concat(invokes(), returns(), begins(), commits()) {
		x.Client, x.ID = uint8(i%16), uint16(i*7)
		l = append(l, x)
	}
	for i, x := range few()[2:] {
		for client := range uint8(16) {
			for _, id := range []uint16{1, 10, 60000 + uint16(i), 65535} {
				x.Client, x.ID = client, id
				l = append(l, x)
			}
		}
	}
	return distinct(l)
}

// distinct is l without events that are the same as an earlier one.
func distinct(l []api.Event) []api.Event {
	var left []api.Event
	seen := map[string]bool{}
	for _, x := range l {
		if s, _ := event.Put(x); !seen[s] {
			seen[s] = true
			left = append(left, x)
		}
	}
	return left
}

// changed is x after each of these changes, alone.
func changed(x api.Event, changes ...func(x *api.Event)) []api.Event {
	var l []api.Event
	for _, change := range changes {
		y := x
		change(&y)
		l = append(l, y)
	}
	return l
}

// invalid are events that are not valid, each way.
func invalid() []api.Event {
	l := []api.Event{{}, {Kind: api.Configure}, {Kind: api.Begin}}
	for _, x := range few() {
		for _, k := range []uint8{0, 8, 9, 128, 255} {
			l = append(l, changed(x, func(x *api.Event) { x.Kind = k })...)
		}
		l = append(l, changed(x,
			func(x *api.Event) { x.Client += 16 },
			func(x *api.Event) { x.Client = 255 },
			func(x *api.Event) { x.Op.F += 12 },
			func(x *api.Event) { x.Op.Obj += 8 },
			func(x *api.Event) { x.Op.Key += 8 },
			func(x *api.Event) { x.Res.K += 5 },
			func(x *api.Event) { x.Res = api.Result{K: api.Yes, V: 1} },
			func(x *api.Event) { x.Txn = append(micros(8, 3), api.Micro{}) },
			func(x *api.Event) { x.Txn = []api.Micro{{Key: 8}} },
			func(x *api.Event) { x.Txn = []api.Micro{{Read: true, Key: 1}, {Read: true, Key: 8}} },
			func(x *api.Event) { x.Txn = []api.Micro{{Read: true, Key: 1, V: 1}} },
			func(x *api.Event) { x.Reads = make([][]uint16, 9) },
			func(x *api.Event) { x.Reads = [][]uint16{{1}, numbers(33, 1)} },
			func(x *api.Event) { x.Config.Model += 5 },
			func(x *api.Event) { x.Config.MaxOpen = -1 },
			func(x *api.Event) { x.Config.MaxOpen = 33 },
			func(x *api.Event) { x.Config.MaxStates = 4097 },
			func(x *api.Event) { x.Config.MaxSteps = 1<<20 + 1 },
			func(x *api.Event) { x.Config.MaxSteps = math.MinInt },
		)...)
	}
	for _, x := range few()[:2] { // what a Configure needs, and does not
		l = append(l, changed(x,
			func(x *api.Event) { x.Config.MaxOpen = 0 },
			func(x *api.Event) { x.Config.MaxStates = 0 },
			func(x *api.Event) { x.Config.MaxSteps = 0 },
			func(x *api.Event) { x.Client = 1 },
			func(x *api.Event) { x.ID = 1 },
			func(x *api.Event) { x.Reads = make([][]uint16, 1) },
		)...)
	}
	for _, x := range few()[7:] { // what none of these needs
		l = append(l, changed(x,
			func(x *api.Event) { x.Op = api.Op{F: api.Read} },
			func(x *api.Event) { x.Res.V = 1 },
			func(x *api.Event) { x.Config.Memo = true },
		)...)
	}
	return l
}

// flag is the word, with a space before it, if it is so.
func flag(so bool, word string) string {
	if so {
		return " " + word
	}
	return ""
}

// lineOf is the line of a valid event, by the definition.
func lineOf(x api.Event) string {
	names := map[uint8]string{1: "config", 2: "invoke", 3: "return", 4: "info", 5: "begin", 6: "commit", 7: "abort"}
	if c := x.Config; x.Kind == 1 {
		model := []string{"register", "queue", "map", "lock", "append"}[c.Model]
		return fmt.Sprintf("config %s %d %d %d", model, c.MaxOpen, c.MaxStates, c.MaxSteps) + flag(c.Partition, "partition") + flag(c.Cut, "cut") + flag(c.Memo, "memo")
	}
	s := fmt.Sprintf("%s %d %d", names[x.Kind], x.Client, x.ID)
	switch x.Kind {
	case 2:
		s += " " + strings.Join(op.Words(x.Op), " ")
	case 3:
		r, _ := result.Text(x.Res)
		s += " " + r
	case 5:
		for _, m := range x.Txn {
			if m.Read {
				s += fmt.Sprintf(" read %d", m.Key)
			} else {
				s += fmt.Sprintf(" append %d %d", m.Key, m.V)
			}
		}
	case 6:
		for _, l := range x.Reads {
			if len(l) == 0 {
				s += " -"
			} else {
				s += " " + strings.ReplaceAll(strings.Trim(fmt.Sprint(l), "[]"), " ", ",")
			}
		}
	}
	return s
}

// lines tells whether Line of x is that.
func lines(t *testing.T, x api.Event, want string, wantErr api.Errno) {
	t.Helper()
	if s, e := text.Line(x); s != want || e != wantErr {
		t.Fatalf("Line of %.200s: %q, %d, and not %q, %d", fmt.Sprint(x), s, e, want, wantErr)
	}
}

// examples are those of the chapter, and some like them.
func examples() map[string]api.Event {
	return map[string]api.Event{
		"config map 8 100 1000 partition memo":                 {Kind: api.Configure, Config: api.Config{Model: api.Map, MaxOpen: 8, MaxStates: 100, MaxSteps: 1000, Partition: true, Memo: true}},
		"invoke 3 258 1 write 5":                               {Kind: api.Invoke, Client: 3, ID: 258, Op: api.Op{F: api.Write, Obj: 1, A: 5}},
		"return 3 258 value 7":                                 {Kind: api.Return, Client: 3, ID: 258, Res: api.Result{K: api.Value, V: 7}},
		"info 3 258":                                           {Kind: api.Info, Client: 3, ID: 258},
		"abort 0 0":                                            {Kind: api.Abort},
		"begin 1 9 read 2 append 2 6":                          {Kind: api.Begin, Client: 1, ID: 9, Txn: []api.Micro{{Read: true, Key: 2}, {Key: 2, V: 6}}},
		"commit 1 9 4,5 -":                                     {Kind: api.Commit, Client: 1, ID: 9, Reads: [][]uint16{{4, 5}, nil}},
		"commit 1 9":                                           {Kind: api.Commit, Client: 1, ID: 9},
		"config register 1 1 1":                                {Kind: api.Configure, Config: api.Config{Model: api.Register, MaxOpen: 1, MaxStates: 1, MaxSteps: 1}},
		"config queue 2 3 4 cut":                               {Kind: api.Configure, Config: api.Config{Model: api.Queue, MaxOpen: 2, MaxStates: 3, MaxSteps: 4, Cut: true}},
		"config lock 32 4096 1048576 partition cut memo":       {Kind: api.Configure, Config: api.Config{Model: api.Lock, MaxOpen: 32, MaxStates: 4096, MaxSteps: 1 << 20, Partition: true, Cut: true, Memo: true}},
		"config append 8 10 100 partition":                     {Kind: api.Configure, Config: api.Config{Model: api.Append, MaxOpen: 8, MaxStates: 10, MaxSteps: 100, Partition: true}},
		"invoke 15 65535 7 swap 6 258 0":                       {Kind: api.Invoke, Client: 15, ID: 65535, Op: api.Op{F: api.Swap, Obj: 7, Key: 6, A: 258}},
		"invoke 0 0 0 read":                                    {Kind: api.Invoke, Op: api.Op{F: api.Read}},
		"return 0 1 done":                                      {Kind: api.Return, ID: 1, Res: api.Result{K: api.Done}},
		"return 0 1 none":                                      {Kind: api.Return, ID: 1, Res: api.Result{K: api.None}},
		"return 15 1 yes":                                      {Kind: api.Return, Client: 15, ID: 1, Res: api.Result{K: api.Yes}},
		"return 0 1 no":                                        {Kind: api.Return, ID: 1, Res: api.Result{K: api.No}},
		"begin 0 0 append 0 0":                                 {Kind: api.Begin, Txn: []api.Micro{{}}},
		"begin 0 1 read 7 read 7 append 7 65535 append 7 1":    {Kind: api.Begin, ID: 1, Txn: []api.Micro{{Read: true, Key: 7}, {Read: true, Key: 7}, {Key: 7, V: 65535}, {Key: 7, V: 1}}},
		"commit 0 1 -":                                         {Kind: api.Commit, ID: 1, Reads: [][]uint16{{}}},
		"commit 0 1 - 0 - 0,0 65535,1,65535 - - -":             {Kind: api.Commit, ID: 1, Reads: [][]uint16{nil, {0}, nil, {0, 0}, {65535, 1, 65535}, nil, nil, nil}},
		"begin 1 2 append 0 1 read 1 append 2 3 read 0 read 0": {Kind: api.Begin, Client: 1, ID: 2, Txn: []api.Micro{{V: 1}, {Read: true, Key: 1}, {Key: 2, V: 3}, {Read: true}, {Read: true}}},
	}
}

// TestExamples are the chapter's examples, and some like them.
func TestExamples(t *testing.T) {
	for s, x := range examples() {
		lines(t, x, s, api.OK)
		parses(t, s, x, api.OK)
	}
	for _, s := range []string{"info 3 0258", "info 16 1", "info 3", "Info 3 1", "", "config map 0 1 1", "config map 8 1 1 memo cut", "commit 1 9 4,"} {
		refuses(t, s)
	}
	reads(t, "info 0 1\n\nx\n", nil, 2, api.ErrForm)
	reads(t, "info 0 1", []api.Event{{Kind: api.Info, ID: 1}}, 1, api.OK)
}

// TestSplit tells that what the other tests go through is what they take it for.
func TestSplit(t *testing.T) {
	kinds := map[uint8]int{}
	for _, x := range valid() {
		kinds[x.Kind]++
		if event.Check(x) != api.OK {
			t.Fatalf("%v is not valid", x)
		}
	}
	for k := uint8(1); k <= 7; k++ {
		if kinds[k] < 60 {
			t.Errorf("%d valid events of kind %d", kinds[k], k)
		}
	}
	for _, x := range invalid() {
		if event.Check(x) != api.ErrForm {
			t.Fatalf("%v is valid", x)
		}
	}
}

// TestLine is P6.1, P6.3 and P6.4: each event has its line, which has no byte 10, is read as this event, and is that of no other.
func TestLine(t *testing.T) {
	seen := map[string]api.Event{}
	for _, x := range valid() {
		s := lineOf(x)
		lines(t, x, s, api.OK)
		parses(t, s, x, api.OK)
		if strings.Contains(s, "\n") {
			t.Errorf("%v: %q", x, s)
		}
		if other, there := seen[s]; there {
			t.Errorf("%v and %v: %q", other, x, s)
		}
		seen[s] = x
	}
}

// TestLineInvalid is P6.1 of events that are not valid: ErrForm, and no line.
func TestLineInvalid(t *testing.T) {
	for _, x := range invalid() {
		lines(t, x, "", api.ErrForm)
	}
}

// TestLineOwn is P6.4: what is handed to Line stays as it was, up to its capacity, and is not kept.
func TestLineOwn(t *testing.T) {
	given := func() api.Event {
		x := api.Event{Kind: api.Commit, Client: 1, ID: 9, Reads: [][]uint16{{4, 5, 60000}, {}, {7}, {8}}}
		x.Reads[0] = x.Reads[0][:2]
		x.Reads = x.Reads[:3]
		return x
	}
	x, want := given(), "commit 1 9 4,5 - 7"
	lines(t, x, want, api.OK)
	if all := func(x api.Event) string { return fmt.Sprint(x, x.Reads[:4], x.Reads[0][:3]) }; all(x) != all(given()) {
		t.Errorf("Line changed its argument: %v", x)
	}
	s, _ := text.Line(x)
	x.Reads[0][0], x.Reads[2] = 6, nil
	if s != want {
		t.Errorf("the line has changed with the event: %q", s)
	}
	lines(t, x, "commit 1 9 6,5 - -", api.OK)

	y := api.Event{Kind: api.Begin, Txn: []api.Micro{{Read: true, Key: 1}, {Key: 2, V: 3}, {Key: 4}}}
	y.Txn = y.Txn[:2]
	lines(t, y, "begin 0 0 read 1 append 2 3", api.OK)
	if !slices.Equal(y.Txn[:3], []api.Micro{{Read: true, Key: 1}, {Key: 2, V: 3}, {Key: 4}}) {
		t.Errorf("Line changed its argument: %v", y.Txn[:3])
	}
}
