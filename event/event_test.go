package event_test

import (
	"fmt"
	"math"
	"slices"
	"strings"
	"testing"

	"umpire/api"
	"umpire/event"
	"umpire/op"
	"umpire/result"
)

// shown is all of an event; nil and empty lists are shown alike.
func shown(x api.Event) string { return fmt.Sprintf("%v", x) }

// plain are the fields of an event that are no lists.
type plain struct {
	kind, client uint8
	id           uint16
	op           api.Op
	res          api.Result
	config       api.Config
}

// equal tells whether all fields of a and b are equal; nil and empty lists are.
func equal(a, b api.Event) bool {
	lists := func(l, m []uint16) bool { return slices.Equal(l, m) }
	return plain{a.Kind, a.Client, a.ID, a.Op, a.Res, a.Config} == plain{b.Kind, b.Client, b.ID, b.Op, b.Res, b.Config} &&
		slices.Equal(a.Txn, b.Txn) && slices.EqualFunc(a.Reads, b.Reads, lists)
}

// zero tells whether all fields of x are zero, except those that are named.
func zero(x api.Event, except ...string) bool {
	for _, name := range except {
		switch name {
		case "Config":
			x.Config = api.Config{}
		case "Client":
			x.Client, x.ID = 0, 0
		case "Op":
			x.Op = api.Op{}
		case "Res":
			x.Res = api.Result{}
		case "Txn":
			x.Txn = nil
		case "Reads":
			x.Reads = nil
		}
	}
	x.Kind = 0
	return equal(x, api.Event{})
}

// isValid is the definition.
func isValid(x api.Event) bool {
	c := x.Config
	if x.Client > 15 {
		return false
	}
	switch x.Kind {
	case 1:
		return zero(x, "Config") && c.Model < 5 && c.MaxOpen > 0 && c.MaxOpen < 33 && c.MaxStates > 0 && c.MaxStates < 4097 && c.MaxSteps > 0 && c.MaxSteps < 1048577
	case 2:
		_, e := op.Put(x.Op)
		return zero(x, "Client", "Op") && e == api.OK
	case 3:
		return zero(x, "Client", "Res") && result.Check(x.Res) == api.OK
	case 4, 7:
		return zero(x, "Client")
	case 5:
		wrong := func(m api.Micro) bool { return m.Key > 7 || m.Read && m.V > 0 }
		return zero(x, "Client", "Txn") && len(x.Txn) > 0 && len(x.Txn) < 9 && !slices.ContainsFunc(x.Txn, wrong)
	case 6:
		wrong := func(l []uint16) bool { return len(l) > 32 }
		return zero(x, "Client", "Reads") && len(x.Reads) < 9 && !slices.ContainsFunc(x.Reads, wrong)
	}
	return false
}

// two are the two bytes of a number.
func two(n uint16) []byte { return []byte{byte(n / 256), byte(n % 256)} }

// flagsOf is the byte of a config's three switches.
func flagsOf(c api.Config) byte {
	n := byte(0)
	for i, set := range []bool{c.Partition, c.Cut, c.Memo} {
		if set {
			n += []byte{1, 2, 4}[i]
		}
	}
	return n
}

// bytesOf is the encoding of a valid event, by the definition; of others, what would be theirs if they had one.
func bytesOf(x api.Event) string {
	if c := x.Config; x.Kind == 1 {
		steps := uint32(c.MaxSteps)
		return string(slices.Concat([]byte{1, c.Model, flagsOf(c), byte(c.MaxOpen)}, two(uint16(c.MaxStates)), two(uint16(steps>>16)), two(uint16(steps))))
	}
	b := slices.Concat([]byte{x.Kind, x.Client}, two(x.ID))
	switch x.Kind {
	case 2:
		s, _ := op.Put(x.Op)
		b = append(b, s...)
	case 3:
		s, _ := result.Put(x.Res)
		b = append(b, s...)
	case 5:
		b = append(b, byte(len(x.Txn)))
		for _, m := range x.Txn {
			if m.Read {
				b = append(b, 128+m.Key)
			} else {
				b = append(append(b, m.Key), two(m.V)...)
			}
		}
	case 6:
		b = append(b, byte(len(x.Reads)))
		for _, l := range x.Reads {
			b = append(b, byte(len(l)))
			for _, n := range l {
				b = append(b, two(n)...)
			}
		}
	}
	return string(b)
}

// ids are IDs and Vs at which a byte of a number changes, and some between them.
func ids() []uint16 { return []uint16{0, 1, 9, 127, 128, 255, 256, 258, 32768, 65280, 65534, 65535} }

// configs are valid ones: each field at its least and its greatest, with each of the others.
func configs() []api.Event {
	var l []api.Event
	for n := range 5 * 8 {
		for _, open := range []int{1, 2, 8, 31, 32} {
			for _, states := range []int{1, 2, 100, 255, 256, 4095, 4096} {
				for _, steps := range []int{1, 2, 255, 256, 1000, 65535, 65536, 1<<20 - 1, 1 << 20} {
					c := api.Config{Model: uint8(n / 8), MaxOpen: open, MaxStates: states, MaxSteps: steps, Partition: n&1 > 0, Cut: n&2 > 0, Memo: n&4 > 0}
					l = append(l, api.Event{Kind: api.Configure, Config: c})
				}
			}
		}
	}
	return l
}

// invokes have all operations that there are, with different numbers.
func invokes() []api.Event {
	var l []api.Event
	for f := range 12 {
		for _, n := range ids() {
			for _, small := range []uint8{0, 1, 7} {
				x := api.Op{F: uint8(f), Obj: small, Key: 7 - small, A: n, B: 65535 - n}
				for _, y := range []api.Op{x, {F: x.F, Obj: x.Obj, Key: x.Key, A: x.A}, {F: x.F, Obj: x.Obj, A: x.A, B: x.B}, {F: x.F, Obj: x.Obj, A: x.A}, {F: x.F, Obj: x.Obj, Key: x.Key}, {F: x.F, Obj: x.Obj}} {
					if _, e := op.Put(y); e == api.OK {
						l = append(l, api.Event{Kind: api.Invoke, Op: y})
					}
				}
			}
		}
	}
	return l
}

// returns have all kinds of results, with different numbers.
func returns() []api.Event {
	var l []api.Event
	for _, k := range []uint8{api.Done, api.None, api.Yes, api.No} {
		l = append(l, api.Event{Kind: api.Return, Res: api.Result{K: k}})
	}
	for _, v := range ids() {
		l = append(l, api.Event{Kind: api.Return, Res: api.Result{K: api.Value, V: v}})
	}
	return l
}

// micros are n of them, with reads where the bits of mask say so.
func micros(n int, mask uint) []api.Micro {
	var l []api.Micro
	for i := range n {
		m := api.Micro{Read: mask>>i&1 > 0, Key: uint8(i*3) % 8}
		if !m.Read {
			m.V = uint16(i)*257 + uint16(mask)
		}
		l = append(l, m)
	}
	return l
}

// begins have from 1 to 8 micros, each of them a read or an append, with all keys.
func begins() []api.Event {
	var l []api.Event
	for n := 1; n <= 8; n++ {
		for mask := range uint(1) << n {
			l = append(l, api.Event{Kind: api.Begin, Txn: micros(n, mask)})
		}
	}
	for key := range uint8(8) {
		l = append(l, api.Event{Kind: api.Begin, Txn: []api.Micro{{Read: true, Key: key}}})
		for _, v := range ids() {
			l = append(l, api.Event{Kind: api.Begin, Txn: []api.Micro{{Key: key, V: v}}})
		}
	}
	return l
}

// numbers are n of them, which differ from each other.
func numbers(n, from int) []uint16 {
	l := make([]uint16, n)
	for i := range l {
		l[i] = uint16(from + i*771)
	}
	return l
}

// commits have from 0 to 8 lists of from 0 to 32 numbers.
func commits() []api.Event {
	var l []api.Event
	for n := range 9 {
		for _, size := range []int{0, 1, 2, 31, 32} {
			even, uneven := make([][]uint16, n), make([][]uint16, n)
			for i := range n {
				even[i], uneven[i] = numbers(size, 1000*i), numbers((size+i)%33, 65535-i)
			}
			l = append(l, api.Event{Kind: api.Commit, Reads: even}, api.Event{Kind: api.Commit, Reads: uneven})
		}
	}
	return l
}

// bases are valid events of each kind, by which client they are left aside.
func bases() []api.Event {
	return slices.Concat(configs(), invokes(), returns(), []api.Event{{Kind: api.Info}}, begins(), commits(), []api.Event{{Kind: api.Abort}})
}

// few are one or two events of each kind, by clients that are not 0.
func few() []api.Event {
	return []api.Event{
		{Kind: api.Configure, Config: api.Config{Model: api.Map, MaxOpen: 8, MaxStates: 258, MaxSteps: 66051, Partition: true, Memo: true}},
		{Kind: api.Configure, Config: api.Config{Model: api.Append, MaxOpen: 32, MaxStates: 4096, MaxSteps: 1 << 20, Cut: true}},
		{Kind: api.Invoke, Client: 3, ID: 258, Op: api.Op{F: api.Write, Obj: 1, A: 5}},
		{Kind: api.Invoke, Client: 15, ID: 65535, Op: api.Op{F: api.Swap, Obj: 7, Key: 6, A: 258, B: 772}},
		{Kind: api.Invoke, Client: 1, ID: 2, Op: api.Op{F: api.Read}},
		{Kind: api.Return, Client: 3, ID: 258, Res: api.Result{K: api.Value, V: 7}},
		{Kind: api.Return, Client: 3, ID: 258, Res: api.Result{K: api.Yes}},
		{Kind: api.Info, Client: 3, ID: 258},
		{Kind: api.Begin, Client: 1, ID: 9, Txn: []api.Micro{{Read: true, Key: 2}, {Key: 2, V: 6}}},
		{Kind: api.Begin, Client: 1, ID: 9, Txn: micros(8, 0b10011010)},
		{Kind: api.Commit, Client: 1, ID: 9, Reads: [][]uint16{{4, 5}}},
		{Kind: api.Commit, Client: 2, ID: 3, Reads: [][]uint16{{}, {258}, nil, {1, 2, 3}}},
		{Kind: api.Commit, Client: 15, ID: 1},
		{Kind: api.Abort, Client: 2, ID: 515},
	}
}

// valid are valid events of each kind, by different clients, with different IDs.
func valid() []api.Event {
	var l []api.Event
	for i, x := range bases() {
		if x.Kind != api.Configure {
			x.Client, x.ID = uint8(i%16), uint16(i*77)
		}
		l = append(l, x)
	}
	for _, x := range few() {
		l = append(l, x)
		for _, client := range []uint8{0, 1, 14, 15} {
			for _, id := range ids() {
				if x.Kind != api.Configure {
					x.Client, x.ID = client, id
					l = append(l, x)
				}
			}
		}
	}
	return l
}

// noKinds are numbers of no kind.
func noKinds() []uint8 { return []uint8{0, 8, 9, 16, 127, 128, 129, 135, 254, 255} }

// changed is x after each of these changes, alone.
func changed(x api.Event, changes ...func(x *api.Event)) []api.Event {
	var l []api.Event
	for _, change := range changes {
		y := x
		change(&y)
		l = append(l, y)
	}
	return l
}

// more are the changes by which one field becomes other than zero, by the names of what must not need it.
func more() map[string][]func(x *api.Event) {
	return map[string][]func(x *api.Event){
		"Client": {func(x *api.Event) { x.Client = 1 }, func(x *api.Event) { x.ID = 1 }, func(x *api.Event) { x.ID = 256 }},
		"Op": {
			func(x *api.Event) { x.Op.F = 1 }, func(x *api.Event) { x.Op.Obj = 1 }, func(x *api.Event) { x.Op.Key = 1 },
			func(x *api.Event) { x.Op.A = 1 }, func(x *api.Event) { x.Op.B = 1 }, func(x *api.Event) { x.Op = api.Op{F: api.Write, A: 256} },
		},
		"Res": {func(x *api.Event) { x.Res.K = 1 }, func(x *api.Event) { x.Res.K = 255 }, func(x *api.Event) { x.Res.V = 1 }, func(x *api.Event) { x.Res.V = 256 }},
		"Txn": {
			func(x *api.Event) { x.Txn = make([]api.Micro, 1) }, func(x *api.Event) { x.Txn = []api.Micro{{Read: true, Key: 1}} },
			func(x *api.Event) { x.Txn = make([]api.Micro, 256) },
		},
		"Reads": {
			func(x *api.Event) { x.Reads = make([][]uint16, 1) }, func(x *api.Event) { x.Reads = [][]uint16{{}} },
			func(x *api.Event) { x.Reads = [][]uint16{{0}} }, func(x *api.Event) { x.Reads = make([][]uint16, 256) },
		},
		"Config": {
			func(x *api.Event) { x.Config.Model = 1 }, func(x *api.Event) { x.Config.MaxOpen = 1 }, func(x *api.Event) { x.Config.MaxStates = 1 },
			func(x *api.Event) { x.Config.MaxSteps = 1 }, func(x *api.Event) { x.Config.MaxSteps = -1 }, func(x *api.Event) { x.Config.Partition = true },
			func(x *api.Event) { x.Config.Cut = true }, func(x *api.Event) { x.Config.Memo = true },
			func(x *api.Event) { x.Config = api.Config{MaxOpen: 1, MaxStates: 1, MaxSteps: 1} },
		},
	}
}

// needs are the fields that each kind needs.
func needs(kind uint8) []string {
	return map[uint8][]string{
		1: {"Config"}, 2: {"Client", "Op"}, 3: {"Client", "Res"}, 4: {"Client"}, 5: {"Client", "Txn"}, 6: {"Client", "Reads"}, 7: {"Client"},
	}[kind]
}

// withMore are events that would be valid without one field that their kind does not need.
func withMore() []api.Event {
	var l []api.Event
	for _, x := range few() {
		for name, changes := range more() {
			if !slices.Contains(needs(x.Kind), name) {
				l = append(l, changed(x, changes...)...)
			}
		}
	}
	return l
}

// ofNoKind are events whose fields would be those of some kind, or all zero.
func ofNoKind() []api.Event {
	var l []api.Event
	for _, k := range noKinds() {
		for _, x := range append(few(), api.Event{}) {
			x.Kind = k
			l = append(l, x)
		}
	}
	return l
}

// ofAnotherKind are events whose fields are those of some other kind.
func ofAnotherKind() []api.Event {
	var l []api.Event
	for _, x := range few() {
		for k := range uint8(8) {
			y := x
			y.Kind = k
			if slices.Equal(needs(k), needs(x.Kind)) || zero(y, needs(k)...) {
				continue
			}
			l = append(l, y)
		}
	}
	return l
}

// ofWrongConfig are configs in which one field is not within its bounds.
func ofWrongConfig() []api.Event {
	var l []api.Event
	for _, x := range few()[:2] {
		for _, n := range []uint8{5, 6, 127, 128, 255} {
			l = append(l, changed(x, func(x *api.Event) { x.Config.Model = n })...)
		}
		for _, n := range []int{0, -1, 33, 34, 255, 256, 257, 264, 1 << 16, 1<<32 + 8, -248, math.MaxInt, math.MinInt} {
			l = append(l, changed(x, func(x *api.Event) { x.Config.MaxOpen = n })...)
		}
		for _, n := range []int{0, -1, 4097, 4098, 65535, 65536, 65537, 65636, 1<<32 + 100, -65436, math.MaxInt, math.MinInt} {
			l = append(l, changed(x, func(x *api.Event) { x.Config.MaxStates = n })...)
		}
		for _, n := range []int{0, -1, 1<<20 + 1, 1<<20 + 2, 1 << 24, 1<<32 - 1, 1 << 32, 1<<32 + 1, 1<<32 + 1000, -1<<32 + 1000, math.MaxInt, math.MinInt} {
			l = append(l, changed(x, func(x *api.Event) { x.Config.MaxSteps = n })...)
		}
	}
	return l
}

// ofWrongClient are events by clients that there are not.
func ofWrongClient() []api.Event {
	var l []api.Event
	for _, x := range few() {
		for _, client := range []uint8{16, 17, 31, 32, 128, 129, 144, 255} {
			x.Client = client
			l = append(l, x)
		}
	}
	return l
}

// ofWrongFields are events in which an operation, a result, a micro or a list is not valid, or in which these are too few or too many.
func ofWrongFields() []api.Event {
	var l []api.Event
	for _, x := range []api.Op{
		{}, {F: 12}, {F: 255}, {F: 12, Obj: 1}, {F: api.Read, Obj: 8}, {F: api.Read, Obj: 255}, {F: api.Read, Key: 1}, {F: api.Read, A: 1}, {F: api.Read, B: 1},
		{F: api.Write, A: 5, B: 1}, {F: api.Get, Key: 8}, {F: api.Swap, Obj: 8, Key: 1, A: 1, B: 1}, {F: api.Release, Obj: 1, Key: 1},
	} {
		l = append(l, api.Event{Kind: api.Invoke, Client: 3, ID: 258, Op: x})
	}
	for _, x := range []api.Result{{K: 5}, {K: 5, V: 1}, {K: 255}, {K: api.Done, V: 1}, {K: api.None, V: 256}, {K: api.Yes, V: 1}, {K: api.No, V: 65535}} {
		l = append(l, api.Event{Kind: api.Return, Client: 3, ID: 258, Res: x})
	}
	for _, n := range []int{0, 9, 10, 16, 128, 255, 256, 257, 264, 1 << 16} {
		l = append(l, api.Event{Kind: api.Begin, Client: 1, ID: 9, Txn: make([]api.Micro, n)})
		l = append(l, api.Event{Kind: api.Begin, Client: 1, ID: 9, Txn: slices.Repeat([]api.Micro{{Read: true, Key: 3}}, n)})
	}
	for _, m := range []api.Micro{{Key: 8}, {Key: 8, V: 5}, {Key: 9}, {Key: 127}, {Key: 128}, {Key: 130}, {Key: 255}, {Read: true, Key: 8}, {Read: true, Key: 127}, {Read: true, Key: 128}, {Read: true, Key: 130}, {Read: true, V: 1}, {Read: true, V: 256}, {Read: true, Key: 7, V: 65535}} {
		for at := range 8 {
			txn := micros(8, 0b01100101)
			txn[at] = m
			l = append(l, api.Event{Kind: api.Begin, Client: 1, ID: 9, Txn: txn}, api.Event{Kind: api.Begin, Client: 1, ID: 9, Txn: txn[:at+1]})
		}
	}
	for _, n := range []int{9, 10, 128, 255, 256, 257, 264, 1 << 16} {
		l = append(l, api.Event{Kind: api.Commit, Client: 1, ID: 9, Reads: make([][]uint16, n)})
		l = append(l, api.Event{Kind: api.Commit, Client: 1, ID: 9, Reads: slices.Repeat([][]uint16{{4, 5}}, n)})
	}
	for _, n := range []int{33, 34, 64, 128, 255, 256, 257, 288, 1 << 16} {
		for at := range 8 {
			reads := slices.Repeat([][]uint16{{4, 5}, {}}, 4)
			reads[at] = numbers(n, 7)
			l = append(l, api.Event{Kind: api.Commit, Client: 1, ID: 9, Reads: reads}, api.Event{Kind: api.Commit, Client: 1, ID: 9, Reads: reads[:at+1]})
		}
	}
	return l
}

// others are events that are not valid.
func others() []api.Event {
	return slices.Concat(withMore(), ofNoKind(), ofAnotherKind(), ofWrongConfig(), ofWrongClient(), ofWrongFields())
}

// TestSplit tells that what the other tests go through is what they take it for.
func TestSplit(t *testing.T) {
	kinds := map[uint8]int{}
	for _, x := range valid() {
		kinds[x.Kind]++
		if !isValid(x) {
			t.Fatalf("%v is not valid", x)
		}
	}
	for k := uint8(1); k <= 7; k++ {
		if kinds[k] < 40 {
			t.Errorf("%d valid events of kind %d", kinds[k], k)
		}
	}
	for _, x := range others() {
		if isValid(x) {
			t.Fatalf("%.200s is valid", shown(x))
		}
	}
}

// puts tells whether Check and Put of x are that.
func puts(t *testing.T, x api.Event, want string, wantErr api.Errno) {
	t.Helper()
	if e := event.Check(x); e != wantErr {
		t.Fatalf("Check of %.200s: %d, and not %d", shown(x), e, wantErr)
	}
	if s, e := event.Put(x); s != want || e != wantErr {
		t.Fatalf("Put of %.200s: % x, %d, and not % x, %d", shown(x), s, e, want, wantErr)
	}
}

// examples are those of the chapter.
func examples() map[string]api.Event {
	return map[string]api.Event{
		"\x01\x02\x05\x08\x00\x64\x00\x00\x03\xe8":     {Kind: api.Configure, Config: api.Config{Model: api.Map, MaxOpen: 8, MaxStates: 100, MaxSteps: 1000, Partition: true, Memo: true}},
		"\x02\x03\x01\x02\x02\x01\x00\x05":             {Kind: api.Invoke, Client: 3, ID: 258, Op: api.Op{F: api.Write, Obj: 1, A: 5}},
		"\x03\x03\x01\x02\x01\x00\x07":                 {Kind: api.Return, Client: 3, ID: 258, Res: api.Result{K: api.Value, V: 7}},
		"\x04\x03\x01\x02":                             {Kind: api.Info, Client: 3, ID: 258},
		"\x07\x00\x00\x00":                             {Kind: api.Abort},
		"\x05\x01\x00\x09\x02\x82\x02\x00\x06":         {Kind: api.Begin, Client: 1, ID: 9, Txn: []api.Micro{{Read: true, Key: 2}, {Key: 2, V: 6}}},
		"\x06\x01\x00\x09\x01\x02\x00\x04\x00\x05":     {Kind: api.Commit, Client: 1, ID: 9, Reads: [][]uint16{{4, 5}}},
		"\x06\x01\x00\x09\x00":                         {Kind: api.Commit, Client: 1, ID: 9},
		"\x06\x01\x00\x09\x03\x00\x01\xff\xff\x00":     {Kind: api.Commit, Client: 1, ID: 9, Reads: [][]uint16{nil, {65535}, {}}},
		"\x01\x00\x00\x01\x00\x01\x00\x00\x00\x01":     {Kind: api.Configure, Config: api.Config{MaxOpen: 1, MaxStates: 1, MaxSteps: 1}},
		"\x01\x04\x02\x20\x10\x00\x00\x10\x00\x00":     {Kind: api.Configure, Config: api.Config{Model: api.Append, MaxOpen: 32, MaxStates: 4096, MaxSteps: 1 << 20, Cut: true}},
		"\x02\x0f\xff\xff\x09\x07\x07\xff\xff\x01\x02": {Kind: api.Invoke, Client: 15, ID: 65535, Op: api.Op{F: api.Swap, Obj: 7, Key: 7, A: 65535, B: 258}},
	}
}

// TestExamples are the chapter's examples, and some like them.
func TestExamples(t *testing.T) {
	for s, x := range examples() {
		puts(t, x, s, api.OK)
		takes(t, s, x, api.OK)
	}
	refuses(t, "", api.ErrTorn)
	refuses(t, "\x08", api.ErrForm)
	refuses(t, "\x04\x03\x01", api.ErrTorn)
	refuses(t, "\x04\x03\x01\x02\x00", api.ErrForm)
	refuses(t, "\x04\x10\x00\x00", api.ErrForm)
}

// TestValid is P5.1 of what is valid.
func TestValid(t *testing.T) {
	for _, x := range valid() {
		puts(t, x, bytesOf(x), api.OK)
	}
}

// TestOthers is P5.1 of what is not valid.
func TestOthers(t *testing.T) {
	for _, x := range others() {
		puts(t, x, "", api.ErrForm)
	}
}

// TestConfigEdges is P5.1: each number of a config at its least and its greatest, one below and one above.
func TestConfigEdges(t *testing.T) {
	for _, c := range []struct {
		name        string
		set         func(c *api.Config, n int)
		least, most int
	}{
		{"MaxOpen", func(c *api.Config, n int) { c.MaxOpen = n }, 1, 32},
		{"MaxStates", func(c *api.Config, n int) { c.MaxStates = n }, 1, 4096},
		{"MaxSteps", func(c *api.Config, n int) { c.MaxSteps = n }, 1, 1048576},
		{"Model", func(c *api.Config, n int) { c.Model = uint8(n) }, 0, 4},
	} {
		for _, n := range []int{c.least - 1, c.least, c.least + 1, c.most - 1, c.most, c.most + 1} {
			x := few()[0]
			c.set(&x.Config, n)
			want := api.OK
			if n < c.least || n > c.most {
				want = api.ErrForm
			}
			if e := event.Check(x); e != want {
				t.Errorf("%s %d: %d", c.name, n, e)
			}
		}
	}
}

// TestEdges is P5.1: the numbers of clients, micros, lists and numbers, and keys, on both sides of their bounds.
func TestEdges(t *testing.T) {
	for _, c := range []struct {
		name        string
		of          func(n int) api.Event
		least, most int
	}{
		{"Client of Info", func(n int) api.Event { return api.Event{Kind: api.Info, Client: uint8(n)} }, 0, 15},
		{"Client of Abort", func(n int) api.Event { return api.Event{Kind: api.Abort, Client: uint8(n)} }, 0, 15},
		{"Client of Invoke", func(n int) api.Event {
			return api.Event{Kind: api.Invoke, Client: uint8(n), Op: api.Op{F: api.Read}}
		}, 0, 15},
		{"Client of Return", func(n int) api.Event { return api.Event{Kind: api.Return, Client: uint8(n)} }, 0, 15},
		{"Client of Begin", func(n int) api.Event {
			return api.Event{Kind: api.Begin, Client: uint8(n), Txn: micros(1, 0)}
		}, 0, 15},
		{"Client of Commit", func(n int) api.Event { return api.Event{Kind: api.Commit, Client: uint8(n)} }, 0, 15},
		{"Client of Configure", func(n int) api.Event { x := few()[0]; x.Client = uint8(n); return x }, 0, 0},
		{"ID of Configure", func(n int) api.Event { x := few()[0]; x.ID = uint16(n); return x }, 0, 0},
		{"micros", func(n int) api.Event { return api.Event{Kind: api.Begin, Txn: make([]api.Micro, n)} }, 1, 8},
		{"key of an append", func(n int) api.Event { return api.Event{Kind: api.Begin, Txn: []api.Micro{{Key: uint8(n)}}} }, 0, 7},
		{"key of a read", func(n int) api.Event {
			return api.Event{Kind: api.Begin, Txn: []api.Micro{{Read: true, Key: uint8(n)}}}
		}, 0, 7},
		{"V of a read", func(n int) api.Event {
			return api.Event{Kind: api.Begin, Txn: []api.Micro{{Read: true, V: uint16(n)}}}
		}, 0, 0},
		{"lists", func(n int) api.Event { return api.Event{Kind: api.Commit, Reads: make([][]uint16, n)} }, 0, 8},
		{"numbers", func(n int) api.Event { return api.Event{Kind: api.Commit, Reads: [][]uint16{make([]uint16, n)}} }, 0, 32},
	} {
		for n := range 256 {
			want := api.OK
			if n < c.least || n > c.most {
				want = api.ErrForm
			}
			if e := event.Check(c.of(n)); e != want {
				t.Errorf("%s: %d: %d", c.name, n, e)
			}
		}
	}
}

// TestEmptyLists is P5.1: an empty list is no field too many, and is put like nil.
func TestEmptyLists(t *testing.T) {
	for _, x := range few() {
		want := bytesOf(x)
		y := x
		if len(y.Txn) == 0 {
			y.Txn = []api.Micro{}
		}
		if len(y.Reads) == 0 {
			y.Reads = make([][]uint16, 0, 4)
		}
		y.Reads = slices.Clone(y.Reads)
		for i, l := range y.Reads {
			if len(l) == 0 {
				y.Reads[i] = make([]uint16, 0, 3)
			}
		}
		puts(t, y, want, api.OK)
		z := y
		z.Reads = slices.Clone(y.Reads)
		for i, l := range z.Reads {
			if len(l) == 0 {
				z.Reads[i] = nil
			}
		}
		puts(t, z, want, api.OK)
		if !event.Same(x, y) || !event.Same(y, z) || !event.Same(z, x) {
			t.Errorf("%v with empty lists is another event", x)
		}
	}
	puts(t, api.Event{Kind: api.Begin, Txn: []api.Micro{}}, "", api.ErrForm)
	puts(t, api.Event{Kind: api.Begin}, "", api.ErrForm)
	puts(t, api.Event{}, "", api.ErrForm)
	puts(t, api.Event{Txn: []api.Micro{}, Reads: [][]uint16{}}, "", api.ErrForm)
}

// TestLongest is P5.4: no event is longer than a frame's payload may be.
func TestLongest(t *testing.T) {
	longest := 0
	for _, x := range valid() {
		s, _ := event.Put(x)
		longest = max(longest, len(s))
	}
	if longest != 525 || longest > api.MaxFrame {
		t.Errorf("%d bytes", longest)
	}
	x := api.Event{Kind: api.Commit, Client: 15, ID: 65535, Reads: slices.Repeat([][]uint16{slices.Repeat([]uint16{65535}, 32)}, 8)}
	s := "\x06\x0f\xff\xff\x08" + strings.Repeat("\x20"+strings.Repeat("\xff", 64), 8)
	puts(t, x, s, api.OK)
	takes(t, s, x, api.OK)
}

// TestPutDiffer is P5.3 and P5.4: no two events have the same encoding, and none's is the beginning of another one's.
func TestPutDiffer(t *testing.T) {
	seen := map[string]api.Event{}
	for _, x := range valid() {
		s, _ := event.Put(x)
		if other, there := seen[s]; there && !equal(other, x) {
			t.Errorf("%v and %v: % x", other, x, s)
		}
		seen[s] = x
	}
	for s, x := range seen {
		for n := range s {
			if other, there := seen[s[:n]]; there {
				t.Errorf("%v begins with %v", x, other)
			}
		}
	}
}

// full is an event all of whose lists have elements, whatever its kind, and room behind them.
func full(kind uint8) api.Event {
	x := api.Event{
		Kind: kind, Client: 3, ID: 258, Op: api.Op{F: api.Swap, Obj: 1, Key: 2, A: 3, B: 4}, Res: api.Result{K: api.Value, V: 7},
		Txn:    append(make([]api.Micro, 0, 9), api.Micro{Read: true, Key: 2}, api.Micro{Key: 3, V: 6}),
		Reads:  append(make([][]uint16, 0, 9), append(make([]uint16, 0, 5), 4, 5), []uint16{6}, nil),
		Config: api.Config{Model: api.Queue, MaxOpen: 8, MaxStates: 100, MaxSteps: 1000, Partition: true, Cut: true, Memo: true},
	}
	switch kind {
	case api.Configure:
		return api.Event{Kind: kind, Config: x.Config}
	case api.Invoke:
		return api.Event{Kind: kind, Client: 3, ID: 258, Op: x.Op}
	case api.Return:
		return api.Event{Kind: kind, Client: 3, ID: 258, Res: x.Res}
	case api.Begin:
		return api.Event{Kind: kind, Client: 3, ID: 258, Txn: x.Txn}
	case api.Commit:
		return api.Event{Kind: kind, Client: 3, ID: 258, Reads: x.Reads}
	case api.Info, api.Abort:
		return api.Event{Kind: kind, Client: 3, ID: 258}
	}
	return x
}

// behind are the elements of all lists, and those in the room behind them.
func behind(x api.Event) string {
	s := fmt.Sprint(x.Txn[:cap(x.Txn)], x.Reads[:cap(x.Reads)])
	for _, l := range x.Reads {
		s += fmt.Sprint(l[:cap(l)])
	}
	return s
}

// TestPutOwn is P5.5: what is handed to Check, Put and Same stays as it was, and is not kept.
func TestPutOwn(t *testing.T) {
	for kind := range uint8(10) {
		x, y := full(kind), full(kind)
		before, room := shown(x), behind(x)
		first, e := event.Put(x)
		event.Check(x)
		if !event.Same(x, y) {
			t.Errorf("kind %d: %v and %v are not the same", kind, x, y)
		}
		if shown(x) != before || behind(x) != room || shown(y) != before || behind(y) != room {
			t.Errorf("kind %d: %v, %s, and not %s, %s", kind, x, behind(x), before, room)
		}
		copied := strings.Clone(first)
		clear(y.Txn)
		for _, l := range y.Reads {
			clear(l)
		}
		clear(y.Reads)
		event.Put(y)
		if again, f := event.Put(full(kind)); again != copied || first != copied || f != e {
			t.Errorf("kind %d: Put once more: % x, %d", kind, again, f)
		}
	}
}
