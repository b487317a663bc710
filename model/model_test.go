package model_test

import (
	"testing"

	"umpire/api"
	"umpire/model"
)

// The operations that the tests perform, and their results.
var (
	read    = api.Op{F: api.Read}
	deq     = api.Op{F: api.Deq}
	acquire = api.Op{F: api.Acquire}
	release = api.Op{F: api.Release}

	done = api.Result{K: api.Done}
	none = api.Result{K: api.None}
	yes  = api.Result{K: api.Yes}
	no   = api.Result{K: api.No}
)

func write(a uint16) api.Op          { return api.Op{F: api.Write, A: a} }
func cas(a, b uint16) api.Op         { return api.Op{F: api.CAS, A: a, B: b} }
func enq(a uint16) api.Op            { return api.Op{F: api.Enq, A: a} }
func get(key uint8) api.Op           { return api.Op{F: api.Get, Key: key} }
func put(key uint8, a uint16) api.Op { return api.Op{F: api.Put, Key: key, A: a} }
func del(key uint8) api.Op           { return api.Op{F: api.Del, Key: key} }
func swap(key uint8, a, b uint16) api.Op {
	return api.Op{F: api.Swap, Key: key, A: a, B: b}
}
func value(v uint16) api.Result { return api.Result{K: api.Value, V: v} }

// call is an operation of a client.
type call struct {
	client uint8
	op     api.Op
}

// calls are those operations of client 0, or of that client.
func calls(client uint8, ops ...api.Op) []call {
	var l []call
	for _, x := range ops {
		l = append(l, call{client, x})
	}
	return l
}

// newOf is the initial state of the model.
func newOf(t *testing.T, of uint8) model.State {
	t.Helper()
	s, e := model.New(of)
	if e != api.OK {
		t.Fatalf("New of %d: %d", of, e)
	}
	return s
}

// after is the state to which those calls lead from s.
func after(t *testing.T, s model.State, l ...call) model.State {
	t.Helper()
	for _, c := range l {
		to, _, e := s.Step(c.client, c.op)
		if e != api.OK {
			t.Fatalf("Step of %v in %s: %d", c, s.Text(), e)
		}
		s = to
	}
	return s
}

// made is the state to which those operations of client 0 lead from the initial one of the model.
func made(t *testing.T, of uint8, ops ...api.Op) model.State {
	t.Helper()
	return after(t, newOf(t, of), calls(0, ops...)...)
}

// is tells whether s is a state of that model, with that text and that encoding.
func is(t *testing.T, s model.State, of uint8, text, encoding string) {
	t.Helper()
	if got, ok := s.Model(); got != of || !ok {
		t.Errorf("Model of %q: %d, %t, and not %d", s.Text(), got, ok, of)
	}
	if s.Text() != text || s.Encode() != encoding {
		t.Errorf("Text and Encode: %q, % x, and not %q, % x", s.Text(), s.Encode(), text, encoding)
	}
}

// isZero tells whether s is the zero State.
func isZero(t *testing.T, s model.State) {
	t.Helper()
	if s != (model.State{}) {
		of, ok := s.Model()
		t.Errorf("%q of %d, %t, and not the zero State", s.Text(), of, ok)
	}
}

// some are states of each model, at their models: the initial one, ones that differ from it in a way of each kind, and full ones.
func some(t *testing.T) [4][]model.State {
	t.Helper()
	var all [4][]model.State
	add := func(of uint8, ops ...api.Op) { all[of] = append(all[of], made(t, of, ops...)) }
	for of := range uint8(4) {
		add(of)
	}
	for _, n := range []uint16{1, 255, 256, 65535} {
		add(api.Register, write(n))
		add(api.Queue, enq(n))
		add(api.Queue, enq(n), enq(0), enq(n))
		add(api.Map, put(0, n))
		add(api.Map, put(7, n), put(0, 0))
	}
	add(api.Queue, enq(0))
	add(api.Queue, enq(1), enq(2), deq)
	add(api.Map, put(3, 0))
	add(api.Map, put(7, 7), put(6, 6), put(5, 5), put(4, 4), put(3, 3), put(2, 2), put(1, 1), put(0, 0))
	for client := range uint8(16) {
		all[api.Lock] = append(all[api.Lock], after(t, newOf(t, api.Lock), call{client, acquire}))
	}
	return all
}

// operations are those of each model, at their models.
func operations() [4][]api.Op {
	return [4][]api.Op{
		{read, write(0), write(5), write(65535), cas(0, 5), cas(5, 0), cas(5, 5), cas(65535, 256)},
		{deq, enq(0), enq(5), enq(65535)},
		{get(0), get(7), put(0, 0), put(3, 5), put(7, 65535), del(0), del(3), del(7), swap(0, 0, 5), swap(3, 5, 0), swap(7, 65535, 256)},
		{acquire, release},
	}
}

// TestNew is P13.1: of each model.
func TestNew(t *testing.T) {
	is(t, newOf(t, api.Register), api.Register, "0", "\x00\x00")
	is(t, newOf(t, api.Queue), api.Queue, "[]", "")
	is(t, newOf(t, api.Map), api.Map, "{}", "\x00")
	is(t, newOf(t, api.Lock), api.Lock, "free", "\x00")
}

// TestNewOfNone is P13.1: of each number that is no model, transactions among them.
func TestNewOfNone(t *testing.T) {
	for of := 4; of < 256; of++ {
		s, e := model.New(uint8(of))
		if e != api.ErrForeign {
			t.Errorf("New of %d: %d", of, e)
		}
		isZero(t, s)
	}
}

// TestModel is P13.1: of states of each model, however they were made.
func TestModel(t *testing.T) {
	for of, states := range some(t) {
		for _, s := range states {
			if got, ok := s.Model(); int(got) != of || !ok {
				t.Errorf("Model of %s: %d, %t, and not %d", s.Text(), got, ok, of)
			}
			d, _ := model.Decode(uint8(of), s.Encode())
			if got, ok := d.Model(); int(got) != of || !ok {
				t.Errorf("Model of %s that was decoded: %d, %t, and not %d", s.Text(), got, ok, of)
			}
		}
	}
}

// TestZero is P13.1: of the zero State, methods return false, ErrNil, or nothing.
func TestZero(t *testing.T) {
	var zero model.State
	if of, ok := zero.Model(); of != 0 || ok {
		t.Errorf("Model: %d, %t", of, ok)
	}
	if zero.Initial() || zero.Encode() != "" || zero.Text() != "" {
		t.Errorf("Initial, Encode, Text: %t, %q, %q", zero.Initial(), zero.Encode(), zero.Text())
	}
	for _, ops := range operations() {
		for _, x := range ops {
			refuses(t, zero, 0, x, api.ErrNil)
			refuses(t, zero, 15, x, api.ErrNil)
		}
	}
	refuses(t, zero, 0, api.Op{}, api.ErrNil)
}

// TestZeroAndOthers is P13.3: the zero State is the same as itself, and as no state of a model, not even one whose encoding is empty, too.
func TestZeroAndOthers(t *testing.T) {
	var zero model.State
	if failed, _ := model.New(api.Append); !model.Same(zero, zero) || !model.Same(zero, failed) {
		t.Error("Same of the zero State with itself: false")
	}
	for _, states := range some(t) {
		for _, s := range states {
			if model.Same(zero, s) || model.Same(s, zero) {
				t.Errorf("Same of the zero State with %s: true", s.Text())
			}
		}
	}
}

// TestInitial is P13.1: of new states, of ones that steps have left, and of ones that steps lead back to.
func TestInitial(t *testing.T) {
	for _, c := range []struct {
		of   uint8
		want bool
		ops  []api.Op
	}{
		{api.Register, true, nil},
		{api.Register, true, []api.Op{read}},
		{api.Register, true, []api.Op{write(0)}},
		{api.Register, true, []api.Op{cas(1, 5)}},
		{api.Register, false, []api.Op{write(1)}},
		{api.Register, false, []api.Op{write(256)}},
		{api.Register, false, []api.Op{cas(0, 5)}},
		{api.Register, true, []api.Op{write(5), write(0)}},
		{api.Register, true, []api.Op{write(5), cas(5, 0), read}},
		{api.Queue, true, nil},
		{api.Queue, true, []api.Op{deq}},
		{api.Queue, false, []api.Op{enq(0)}},
		{api.Queue, false, []api.Op{enq(1), enq(2), deq}},
		{api.Queue, true, []api.Op{enq(5), deq}},
		{api.Queue, true, []api.Op{enq(1), enq(2), deq, deq, deq}},
		{api.Map, true, nil},
		{api.Map, true, []api.Op{get(3), del(3), swap(3, 0, 5)}},
		{api.Map, false, []api.Op{put(0, 0)}},
		{api.Map, false, []api.Op{put(7, 0)}},
		{api.Map, false, []api.Op{put(3, 5), swap(3, 5, 0)}},
		{api.Map, false, []api.Op{put(3, 5), put(4, 5), del(3)}},
		{api.Map, true, []api.Op{put(3, 5), del(3)}},
		{api.Map, true, []api.Op{put(3, 5), put(7, 9), del(3), del(7), get(7)}},
		{api.Lock, true, nil},
		{api.Lock, true, []api.Op{release}},
		{api.Lock, false, []api.Op{acquire}},
		{api.Lock, true, []api.Op{acquire, release}},
		{api.Lock, false, []api.Op{acquire, release, release, acquire, acquire}},
	} {
		s := made(t, c.of, c.ops...)
		if s.Initial() != c.want {
			t.Errorf("Initial behind %v: %t, and not %t", c.ops, s.Initial(), c.want)
		}
		if d, _ := model.Decode(c.of, s.Encode()); d.Initial() != c.want {
			t.Errorf("Initial of what was decoded behind %v: %t, and not %t", c.ops, d.Initial(), c.want)
		}
	}
}

// TestInitialOfLock is P13.1: held by each client, and released by it.
func TestInitialOfLock(t *testing.T) {
	for client := range uint8(16) {
		held := after(t, newOf(t, api.Lock), calls(client, acquire)...)
		other := after(t, held, calls((client+1)%16, release)...)
		if free := after(t, other, calls(client, release)...); held.Initial() || other.Initial() || !free.Initial() {
			t.Errorf("Initial of a lock that %d acquired, another one did not release, and %d did: %t, %t, %t", client, client, held.Initial(), other.Initial(), free.Initial())
		}
	}
}

// TestIdle is P13.4: of each model and each F, and of each number that is no model.
func TestIdle(t *testing.T) {
	for of := range 256 {
		for f := range 256 {
			want := of == api.Register && f == api.Read || of == api.Map && f == api.Get
			if got := model.Idle(uint8(of), uint8(f)); got != want {
				t.Errorf("Idle of %d and %d: %t", of, f, got)
			}
		}
	}
}

// TestExamples are the chapter's examples.
func TestExamples(t *testing.T) {
	m := newOf(t, api.Map)
	to := steps(t, m, 0, put(3, 5), done)
	is(t, to, api.Map, "{3:5}", "\x08\x00\x05")
	if !m.Initial() || to.Initial() {
		t.Errorf("Initial of both: %t, %t", m.Initial(), to.Initial())
	}

	held := steps(t, newOf(t, api.Lock), 3, acquire, yes)
	is(t, held, api.Lock, "held by 3", "\x04")
	if _, ok := held.Fits(2, release, yes); ok {
		t.Error("Fits of Release by 2, Yes: true")
	}
	if free, ok := held.Fits(3, release, yes); !ok || free.Text() != "free" {
		t.Errorf("Fits of Release by 3, Yes: %s, %t", free.Text(), ok)
	}

	q := made(t, api.Queue, enq(1), enq(2))
	is(t, q, api.Queue, "[1 2]", "\x00\x01\x00\x02")
	refuses(t, q, 0, read, api.ErrForeign)
	if _, e := model.New(api.Append); e != api.ErrForeign {
		t.Errorf("New of Append: %d", e)
	}

	if r, e := model.Decode(api.Register, "\x01\x02"); r.Text() != "258" || e != api.OK {
		t.Errorf("Decode of 01 02: %s, %d", r.Text(), e)
	}
	decodesNot(t, api.Register, "\x01", api.ErrForm)
	decodesNot(t, 9, "\x01\x02", api.ErrForeign)

	if !model.Idle(api.Map, api.Get) || model.Idle(api.Register, api.Get) || model.Idle(api.Queue, api.Deq) {
		t.Error("Idle of Map and Get, of Register and Get, of Queue and Deq are not true, false, false")
	}
}
