package register_test

import (
	"testing"

	"umpire/api"
	"umpire/register"
)

// The operations that the tests perform, and their results.
var (
	read = api.Op{F: api.Read}
	done = api.Result{K: api.Done}
	yes  = api.Result{K: api.Yes}
	no   = api.Result{K: api.No}
)

func write(a uint16) api.Op { return api.Op{F: api.Write, A: a} }

func cas(a, b uint16) api.Op { return api.Op{F: api.CAS, A: a, B: b} }

func enq(a uint16) api.Op { return api.Op{F: api.Enq, A: a} }

func value(v uint16) api.Result { return api.Result{K: api.Value, V: v} }

// edges are the least and the greatest states.
func edges() []register.State { return []register.State{0, 1, 65534, 65535} }

// steps tells whether Step of op from s leads to that state, with that result.
func steps(t *testing.T, s register.State, op api.Op, want register.State, wantResult api.Result) {
	t.Helper()
	if to, r, e := register.Step(s, op); to != want || r != wantResult || e != api.OK {
		t.Errorf("Step of %v in %d: %d, %v, %d, and not %d, %v", op, s, to, r, e, want, wantResult)
	}
}

// refuses tells whether Step of op from s is refused as foreign.
func refuses(t *testing.T, s register.State, op api.Op) {
	t.Helper()
	if to, r, e := register.Step(s, op); to != s || r != (api.Result{}) || e != api.ErrForeign {
		t.Errorf("Step of %v in %d: %d, %v, %d", op, s, to, r, e)
	}
}

// isOwn tells whether operations with that F are the register's.
func isOwn(f int) bool { return f == api.Read || f == api.Write || f == api.CAS }

// TestNew is P9.1: the initial state is 0.
func TestNew(t *testing.T) {
	if s := register.New(); s != 0 {
		t.Errorf("New: %d", s)
	}
	steps(t, register.New(), read, 0, value(0))
}

// TestRead is P9.1: the result is the state, which stays as it is, whatever A and B are.
func TestRead(t *testing.T) {
	for _, s := range append(edges(), 5, 255, 256, 258, 32767, 32768) {
		for _, a := range []uint16{0, 1, 7, uint16(s), 65535} {
			steps(t, s, api.Op{F: api.Read, A: a, B: a}, s, value(uint16(s)))
			steps(t, s, api.Op{F: api.Read, A: a}, s, value(uint16(s)))
			steps(t, s, api.Op{F: api.Read, B: a}, s, value(uint16(s)))
		}
	}
}

// TestWrite is P9.1: the state becomes A, also if it was A before, whatever B is.
func TestWrite(t *testing.T) {
	for _, s := range edges() {
		for _, a := range []uint16{0, 1, 2, 255, 256, 32768, 65534, 65535} {
			steps(t, s, write(a), register.State(a), done)
			steps(t, s, api.Op{F: api.Write, A: a, B: a + 1}, register.State(a), done)
			steps(t, s, api.Op{F: api.Write, A: a, B: uint16(s)}, register.State(a), done)
		}
	}
}

// TestCASOfTheState is P9.1: a CAS whose A is the state, also one that writes what is there.
func TestCASOfTheState(t *testing.T) {
	for _, s := range append(edges(), 5, 256, 32768) {
		n := uint16(s)
		for _, b := range []uint16{0, 1, n - 1, n, n + 1, n ^ 256, 65534, 65535} {
			steps(t, s, cas(n, b), register.State(b), yes)
		}
	}
}

// TestCASOfAnother is P9.1: a CAS whose A is not the state, also if its B is, or both are the same.
func TestCASOfAnother(t *testing.T) {
	for _, s := range append(edges(), 5, 256, 32768) {
		n := uint16(s)
		for _, a := range []uint16{n - 1, n + 1, n - 256, n + 256, n ^ 32768, ^n} {
			for _, b := range []uint16{n, a, 0, 1, n - 1, n + 1, 65535} {
				steps(t, s, cas(a, b), s, no)
			}
		}
	}
}

// TestForeign is P9.1: every F that is not the register's is refused, in every state, whatever else the operation has.
func TestForeign(t *testing.T) {
	for f := range 256 {
		for _, s := range append(edges(), 5, 258) {
			op := api.Op{F: uint8(f)}
			with := api.Op{F: uint8(f), Obj: 3, Key: 4, A: uint16(s), B: 9}
			if isOwn(f) {
				if _, _, e := register.Step(s, op); e != api.OK {
					t.Errorf("Step of %d in %d: %d", f, s, e)
				}
				continue
			}
			refuses(t, s, op)
			refuses(t, s, with)
		}
	}
}

// TestObjAndKey is P9.1: they make no difference, also if they are none that there are.
func TestObjAndKey(t *testing.T) {
	for _, s := range edges() {
		for _, op := range []api.Op{read, write(7), cas(uint16(s), 7), cas(7, uint16(s)), enq(7)} {
			to, r, e := register.Step(s, op)
			for _, n := range []uint8{0, 1, 7, 8, 255} {
				for _, m := range []uint8{0, 1, 7, 8, 255} {
					op.Obj, op.Key = n, m
					if to2, r2, e2 := register.Step(s, op); to2 != to || r2 != r || e2 != e {
						t.Errorf("Step of %v in %d: %d, %v, %d, and not %d, %v, %d", op, s, to2, r2, e2, to, r, e)
					}
				}
			}
		}
	}
}

// TestAgain is P9.5: the same operation in the same state has the same result, whatever was done between.
func TestAgain(t *testing.T) {
	for _, s := range edges() {
		for _, op := range []api.Op{read, write(7), cas(uint16(s), 7), cas(7, uint16(s)), enq(7)} {
			to, r, e := register.Step(s, op)
			for _, between := range []api.Op{read, write(9), cas(uint16(to), 8), enq(1)} {
				register.Step(to, between)
				register.Run(to, []api.Op{between, write(6)})
				if to2, r2, e2 := register.Step(s, op); to2 != to || r2 != r || e2 != e {
					t.Errorf("Step of %v in %d, again: %d, %v, %d, and not %d, %v, %d", op, s, to2, r2, e2, to, r, e)
				}
			}
		}
	}
}

// TestEncode is P9.3: two bytes, the higher one first.
func TestEncode(t *testing.T) {
	for s, want := range map[register.State]string{
		0: "\x00\x00", 1: "\x00\x01", 255: "\x00\xff", 256: "\x01\x00", 258: "\x01\x02", 513: "\x02\x01", 32768: "\x80\x00", 65534: "\xff\xfe", 65535: "\xff\xff",
	} {
		if got := register.Encode(s); got != want {
			t.Errorf("Encode of %d: % x", s, got)
		}
	}
}

// TestDecode is P9.3: of two bytes the state, of any other number of them ErrForm.
func TestDecode(t *testing.T) {
	for s, want := range map[string]register.State{
		"\x00\x00": 0, "\x00\x01": 1, "\x00\xff": 255, "\x01\x00": 256, "\x01\x02": 258, "\x02\x01": 513, "\x80\x00": 32768, "\xff\xff": 65535, "é": 0xc3a9,
	} {
		if got, e := register.Decode(s); got != want || e != api.OK {
			t.Errorf("Decode of % x: %d, %d", s, got, e)
		}
	}
	for _, s := range []string{"", "\x00", "\x01", "\xff", "\x00\x00\x00", "\x01\x02\x00", "\x00\x01\x02", "\x00\x00\x00\x05", string(make([]byte, 65538))} {
		if got, e := register.Decode(s); got != 0 || e != api.ErrForm {
			t.Errorf("Decode of %d bytes: %d, %d", len(s), got, e)
		}
	}
}

// TestEveryState is P9.5: Decode of Encode is the state, for each that there is, and no two have the same encoding.
func TestEveryState(t *testing.T) {
	seen := map[string]int{}
	for n := range 1 << 16 {
		s := register.State(n)
		text := register.Encode(s)
		if back, e := register.Decode(text); back != s || e != api.OK {
			t.Fatalf("Decode of Encode of %d: %d, %d", s, back, e)
		}
		if first, ok := seen[text]; ok {
			t.Fatalf("Encode of %d is that of %d", s, first)
		}
		seen[text] = n
	}
}

// TestEveryEncoding is P9.3: Encode of Decode is the text, for each of two bytes.
func TestEveryEncoding(t *testing.T) {
	for n := range 1 << 16 {
		text := string([]byte{byte(n >> 8), byte(n)})
		s, e := register.Decode(text)
		if back := register.Encode(s); back != text || e != api.OK {
			t.Fatalf("Encode of Decode of % x: % x, %d", text, back, e)
		}
	}
}

// TestIdle is P9.3: of each F that there is, and of ones that are none.
func TestIdle(t *testing.T) {
	for f := range 256 {
		if got := register.Idle(uint8(f)); got != (f == api.Read) {
			t.Errorf("Idle of %d: %t", f, got)
		}
	}
}

// TestIdleLeavesStates is P9.3: exactly the operations that are the register's and never change a state are idle.
func TestIdleLeavesStates(t *testing.T) {
	for f := range 256 {
		leaves := isOwn(f)
		for _, s := range edges() {
			for _, a := range []uint16{0, 1, 65534, 65535} {
				to, _, _ := register.Step(s, api.Op{F: uint8(f), A: a, B: a + 1})
				leaves = leaves && to == s
			}
		}
		if got := register.Idle(uint8(f)); got != leaves {
			t.Errorf("Idle of %d: %t, but it leaves the states: %t", f, got, leaves)
		}
	}
}

// TestExamples are the chapter's examples.
func TestExamples(t *testing.T) {
	runs(t, register.New(), []api.Op{read, write(5), cas(5, 7), cas(5, 8), read}, 7, []api.Result{value(0), done, yes, no, value(7)}, api.OK)
	refuses(t, register.New(), enq(1))
	runs(t, register.New(), []api.Op{write(5), enq(1), read}, 5, []api.Result{done}, api.ErrForeign)
	if s := register.Encode(258); s != "\x01\x02" {
		t.Errorf("Encode of 258: % x", s)
	}
	if s, e := register.Decode("\x01\x02"); s != 258 || e != api.OK {
		t.Errorf("Decode of 01 02: %d, %d", s, e)
	}
	if s, e := register.Decode("\x01"); s != 0 || e != api.ErrForm {
		t.Errorf("Decode of 01: %d, %d", s, e)
	}
	if !register.Idle(api.Read) || register.Idle(api.CAS) || register.Idle(api.Get) {
		t.Errorf("Idle: %t, %t, %t", register.Idle(api.Read), register.Idle(api.CAS), register.Idle(api.Get))
	}
}
