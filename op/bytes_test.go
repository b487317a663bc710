package op_test

import (
	"strings"
	"testing"

	"umpire/api"
	"umpire/op"
)

// puts tells whether Put of x is that.
func puts(t *testing.T, x api.Op, want string, wantErr api.Errno) {
	t.Helper()
	if s, e := op.Put(x); s != want || e != wantErr {
		t.Fatalf("Put of %v: % x, %d, and not % x, %d", x, s, e, want, wantErr)
	}
}

// takes tells whether Take of s is that.
func takes(t *testing.T, s string, want api.Op, wantRest string, wantErr api.Errno) {
	t.Helper()
	if x, rest, e := op.Take(s); x != want || rest != wantRest || e != wantErr {
		t.Fatalf("Take of % x: %v, % x, %d, and not %v, % x, %d", s, x, rest, e, want, wantRest, wantErr)
	}
}

// refuses tells whether Take of s is that error, and nothing else.
func refuses(t *testing.T, s string, want api.Errno) {
	t.Helper()
	takes(t, s, api.Op{}, "", want)
}

// TestBytesExamples are the chapter's examples of bytes.
func TestBytesExamples(t *testing.T) {
	puts(t, api.Op{F: api.CAS, Obj: 3, A: 2, B: 258}, "\x03\x03\x00\x02\x01\x02", api.OK)
	puts(t, api.Op{F: api.Swap, Key: 7, B: 5}, "\x09\x00\x07\x00\x00\x00\x05", api.OK)
	puts(t, api.Op{F: api.Deq, Obj: 1}, "\x05\x01", api.OK)
	takes(t, "\x05\x01\x09", api.Op{F: api.Deq, Obj: 1}, "\x09", api.OK)
	refuses(t, "\x0c", api.ErrForm)
	refuses(t, "\x03\x03\x00", api.ErrTorn)
	refuses(t, "\x01\x08", api.ErrForm)
	refuses(t, "", api.ErrTorn)
}

// TestPut is P4.2: the bytes of what is valid, and ErrForm for the others.
func TestPut(t *testing.T) {
	valid, others := split()
	for _, x := range valid {
		puts(t, x, bytesOf(x), api.OK)
	}
	for _, x := range others {
		puts(t, x, "", api.ErrForm)
	}
}

// TestTake is P4.2 and P4.4: Take of Put is the operation, whatever is behind its bytes.
func TestTake(t *testing.T) {
	valid, _ := split()
	for _, x := range valid {
		s, e := op.Put(x)
		if e != api.OK {
			t.Fatalf("Put of %v: %d", x, e)
		}
		for _, rest := range []string{"", "\x00", "\x01", "\x09\x00", "\xff\xff\xff", s, "\xc3\x28z"} {
			takes(t, s+rest, x, rest, api.OK)
		}
	}
}

// TestTakeOneAfterTheOther is P4.4: many operations in one string.
func TestTakeOneAfterTheOther(t *testing.T) {
	valid, _ := split()
	b := &strings.Builder{}
	for _, x := range valid {
		b.WriteString(bytesOf(x))
	}
	left := b.String()
	for _, want := range valid {
		x, rest, e := op.Take(left)
		if x != want || e != api.OK || len(rest) != len(left)-len(bytesOf(x)) || !strings.HasSuffix(left, rest) {
			t.Fatalf("%v, %d bytes, %d, and not %v of %d bytes", x, len(rest), e, want, len(left))
		}
		left = rest
	}
	refuses(t, left, api.ErrTorn)
}

// TestTakeTorn is P4.2: bytes that are missing at each place, the first one among them.
func TestTakeTorn(t *testing.T) {
	valid, _ := split()
	for _, x := range valid {
		s := bytesOf(x)
		for n := range s {
			refuses(t, s[:n], api.ErrTorn)
		}
	}
}

// TestTakeNoF is P4.2: a first byte that is not an F comes before bytes that are missing, and before all that is behind it.
func TestTakeNoF(t *testing.T) {
	for f := range 256 {
		if _, there := listed[uint8(f)]; there {
			continue
		}
		for _, behind := range []string{"", "\x00", "\x07", "\x08", "\x00\x00", "\x01\x00", strings.Repeat("\x00", 9), strings.Repeat("\xff", 9)} {
			refuses(t, string([]byte{byte(f)})+behind, api.ErrForm)
		}
	}
}

// TestTakeInvalid is P4.2: bytes that are missing come before an Obj or a Key that is too great, which are ErrForm when all bytes are there.
func TestTakeInvalid(t *testing.T) {
	for f, l := range listed {
		for _, obj := range small() {
			for _, key := range small() {
				if obj < 8 && (key < 8 || !l.need("k")) {
					continue
				}
				s := bytesOf(api.Op{F: f, Obj: obj, Key: key, A: 258, B: 65535})
				for n := range s {
					refuses(t, s[:n], api.ErrTorn)
				}
				refuses(t, s, api.ErrForm)
				refuses(t, s+"\x01\x00", api.ErrForm)
			}
		}
	}
}

// taken is what Take returns, by the chapter's words.
func taken(s string) (x api.Op, rest string, e api.Errno) {
	if s == "" {
		return api.Op{}, "", api.ErrTorn
	}
	l, there := listed[s[0]]
	if !there {
		return api.Op{}, "", api.ErrForm
	}
	size := 2 + strings.Count(l.needs, "k") + 2*strings.Count(l.needs, "a") + 2*strings.Count(l.needs, "b")
	if len(s) < size {
		return api.Op{}, "", api.ErrTorn
	}
	x, at := api.Op{F: s[0], Obj: s[1]}, 2
	if l.need("k") {
		x.Key, at = s[at], at+1
	}
	if l.need("a") {
		x.A, at = uint16(s[at])*256+uint16(s[at+1]), at+2
	}
	if l.need("b") {
		x.B = uint16(s[at])*256 + uint16(s[at+1])
	}
	if !isValid(x) {
		return api.Op{}, "", api.ErrForm
	}
	return x, s[size:], api.OK
}

// TestTakeAnyBytes is P4.2 and P4.4: Put of what is taken, and the rest, are the string; from other bytes nothing is taken.
func TestTakeAnyBytes(t *testing.T) {
	for n := range 1 << 16 {
		for _, behind := range []string{"", "\x00", "\x07\x01", "\x08\xff\x00", "\x01\x02\x03\x04", "\x06\x00\xff\xff\x00", "\xff\x00\x00\x00\x00\x00\x00"} {
			s := string([]byte{byte(n >> 8), byte(n)}) + behind
			x, rest, e := taken(s)
			takes(t, s, x, rest, e)
			if e == api.OK {
				puts(t, x, s[:len(s)-len(rest)], api.OK)
			}
		}
	}
}

// TestBytesDiffer is P4.4: no two operations have the same bytes, and none's are the beginning of another one's.
func TestBytesDiffer(t *testing.T) {
	valid, _ := split()
	seen := map[string]api.Op{}
	for _, x := range valid {
		s, _ := op.Put(x)
		if other, there := seen[s]; there {
			t.Errorf("%v and %v: % x", other, x, s)
		}
		seen[s] = x
	}
	for s, x := range seen {
		for n := range s {
			if other, there := seen[s[:n]]; there {
				t.Errorf("%v begins with %v", x, other)
			}
		}
	}
}

// TestBytesOwn is P4.5: what is handed in stays as it was, and nothing is kept from call to call.
func TestBytesOwn(t *testing.T) {
	x := api.Op{F: api.Swap, Obj: 1, Key: 2, A: 3, B: 4}
	before := x
	first, _ := op.Put(x)
	s := first + "rest"
	copied := strings.Clone(s)
	for _, other := range []string{"", "\x0c", "\x03\x03\x00", "\x01\x08", "\x07\x07\x07\xff\xff"} {
		op.Take(other)
		y, rest, e := op.Take(s)
		if y != before || rest != "rest" || e != api.OK || s != copied {
			t.Errorf("after % x: %v, %q, %d", other, y, rest, e)
		}
		op.Put(y)
		op.Put(api.Op{})
		if again, e := op.Put(x); again != first || e != api.OK || x != before {
			t.Errorf("Put again: % x, %d", again, e)
		}
	}
}

// FuzzTake is P4.2, P4.4 and P4.5 of all strings.
func FuzzTake(f *testing.F) {
	for k, l := range listed {
		f.Add(bytesOf(api.Op{F: k, Obj: 7, Key: 7, A: 65535, B: 256}) + l.name)
	}
	f.Fuzz(func(t *testing.T, s string) {
		x, rest, e := taken(s)
		takes(t, s, x, rest, e)
		if e == api.OK {
			puts(t, x, s[:len(s)-len(rest)], api.OK)
			parses(t, strings.Split(wordsOf(x), " "), x, api.OK)
		}
	})
}
