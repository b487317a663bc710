package event_test

import (
	"slices"
	"strings"
	"testing"

	"umpire/api"
	"umpire/event"
	"umpire/op"
)

// takes tells whether Take of s is that, and Put of what is taken is s.
func takes(t *testing.T, s string, want api.Event, wantErr api.Errno) {
	t.Helper()
	x, e := event.Take(s)
	if !equal(x, want) || e != wantErr {
		t.Fatalf("Take of % x: %v, %d, and not %v, %d", s, x, e, want, wantErr)
	}
	if e != api.OK {
		return
	}
	if !event.Same(x, want) {
		t.Fatalf("Take of % x: %v, which is not the same as %v", s, x, want)
	}
	if b, e := event.Put(x); b != s || e != api.OK {
		t.Fatalf("% x: %v, whose encoding is % x, %d", s, x, b, e)
	}
}

// refuses tells whether Take of s is that error, and no event.
func refuses(t *testing.T, s string, want api.Errno) {
	t.Helper()
	takes(t, s, api.Event{}, want)
}

// unread is what is left of a string, for taken.
type unread struct {
	s    string
	torn bool
}

// number reads one of n bytes.
func (u *unread) number(n int) int {
	if len(u.s) < n {
		u.s, u.torn = "", true
		return 0
	}
	v := 0
	for _, c := range []byte(u.s[:n]) {
		v = 256*v + int(c)
	}
	u.s = u.s[n:]
	return v
}

// taken is what Take returns, by the chapter's words.
func taken(s string) (api.Event, api.Errno) {
	if s == "" {
		return api.Event{}, api.ErrTorn
	}
	x, more := api.Event{Kind: s[0]}, 0
	if x.Kind < 1 || x.Kind > 7 {
		return api.Event{}, api.ErrForm
	}
	u := &unread{s: s[1:]}
	if x.Kind == 1 {
		x.Config.Model = uint8(u.number(1))
		f := u.number(1)
		x.Config.Partition, x.Config.Cut, x.Config.Memo, more = f%2 == 1, f/2%2 == 1, f/4%2 == 1, f/8
		x.Config.MaxOpen = u.number(1)
		x.Config.MaxStates = u.number(2)
		x.Config.MaxSteps = u.number(4)
	} else {
		x.Client = uint8(u.number(1))
		x.ID = uint16(u.number(2))
	}
	if e := takenBody(&x, u); e != api.OK {
		return api.Event{}, e
	}
	if u.torn {
		return api.Event{}, api.ErrTorn
	}
	if u.s != "" || more > 0 || !isValid(x) {
		return api.Event{}, api.ErrForm
	}
	return x, api.OK
}

// takenBody reads what is behind the ID.
func takenBody(x *api.Event, u *unread) (e api.Errno) {
	if u.torn {
		return api.ErrTorn
	}
	switch x.Kind {
	case 2:
		x.Op, u.s, e = op.Take(u.s)
	case 3:
		if x.Res.K = uint8(u.number(1)); x.Res.K > 4 {
			return api.ErrForm
		}
		if x.Res.K == 1 {
			x.Res.V = uint16(u.number(2))
		}
	case 5:
		for range u.number(1) {
			key := u.number(1)
			m := api.Micro{Read: key > 127, Key: uint8(key % 128)}
			if !m.Read {
				m.V = uint16(u.number(2))
			}
			x.Txn = append(x.Txn, m)
		}
	case 6:
		for range u.number(1) {
			var l []uint16
			for range u.number(1) {
				l = append(l, uint16(u.number(2)))
			}
			x.Reads = append(x.Reads, l)
		}
	}
	return e
}

// takesRight tells whether Take of s is right.
func takesRight(t *testing.T, s string) {
	t.Helper()
	x, e := taken(s)
	takes(t, s, x, e)
}

// TestTake is P5.3 and P5.4: Take of Put is the event; a prefix is torn, and a byte too many is ErrForm.
func TestTake(t *testing.T) {
	for _, x := range valid() {
		s, e := event.Put(x)
		if e != api.OK {
			t.Fatalf("Put of %v: %d", x, e)
		}
		takes(t, s, x, api.OK)
		for n := range s {
			refuses(t, s[:n], api.ErrTorn)
		}
		for _, more := range []string{"\x00", "\x01", "\x05", "\xff", "\x00\x00", "\x00\x00\x00"} {
			refuses(t, s+more, api.ErrForm)
		}
	}
	for _, x := range few() {
		s := bytesOf(x)
		for c := range 256 {
			refuses(t, s+string([]byte{byte(c)}), api.ErrForm)
		}
		refuses(t, s+s, api.ErrForm)
		refuses(t, s+strings.Repeat("\x00", 1<<16), api.ErrForm)
	}
}

// TestTakeNoKind is P5.2: a first byte that is no kind comes before all else.
func TestTakeNoKind(t *testing.T) {
	for n := range 256 {
		first := string([]byte{byte(n)})
		if n >= 1 && n <= 7 {
			refuses(t, first, api.ErrTorn)
			continue
		}
		refuses(t, first, api.ErrForm)
		for _, x := range few() {
			s := bytesOf(x)[1:]
			refuses(t, first+s, api.ErrForm)
			refuses(t, first+s[:1], api.ErrForm)
			refuses(t, first+s+"\x00", api.ErrForm)
		}
	}
}

// TestTakeOrder is P5.2: bytes that are missing come before what is wrong with those that are there, except a first byte of an operation or a result that is none.
func TestTakeOrder(t *testing.T) {
	for _, c := range []struct {
		s    string
		want api.Errno
	}{
		{"\x01\xff\xff\xff\xff\xff\xff\xff\xff", api.ErrTorn},
		{"\x01\xff\xff\xff\xff\xff\xff\xff\xff\xff", api.ErrForm},
		{"\x01\x05", api.ErrTorn},
		{"\x01\x00\x08\x01\x00\x01\x00\x00\x00", api.ErrTorn},
		{"\x04\x10", api.ErrTorn},
		{"\x07\xff\x00", api.ErrTorn},
		{"\x07\xff\x00\x00", api.ErrForm},
		{"\x02\x10", api.ErrTorn},
		{"\x02\x10\x0c", api.ErrTorn},
		{"\x02\x10\x00\x00", api.ErrTorn},
		{"\x02\x10\x00\x00\x01", api.ErrTorn},
		{"\x02\x10\x00\x00\x01\x00", api.ErrForm},
		{"\x02\x00\x00\x00\x0c", api.ErrForm},
		{"\x02\x00\x00\x00\x00", api.ErrForm},
		{"\x02\x00\x00\x00\x02\x08\x00", api.ErrTorn},
		{"\x02\x00\x00\x00\x02\x08\x00\x05", api.ErrForm},
		{"\x02\x00\x00\x00\x06\x00\x08", api.ErrForm},
		{"\x02\x00\x00\x00\x01\x00\x00", api.ErrForm},
		{"\x03\x10\x05", api.ErrTorn},
		{"\x03\x00\x00\x05", api.ErrTorn},
		{"\x03\x10\x00\x00", api.ErrTorn},
		{"\x03\x10\x00\x00\x01", api.ErrTorn},
		{"\x03\x10\x00\x00\x01\x00", api.ErrTorn},
		{"\x03\x10\x00\x00\x01\x00\x00", api.ErrForm},
		{"\x03\x00\x00\x00\x05", api.ErrForm},
		{"\x03\x00\x00\x00\xff\x00", api.ErrForm},
		{"\x03\x00\x00\x00\x00\x00", api.ErrForm},
		{"\x05\x10\x00\x00", api.ErrTorn},
		{"\x05\x00\x00\x00\x00", api.ErrForm},
		{"\x05\x00\x00\x00\x00\x80", api.ErrForm},
		{"\x05\x10\x00\x00\x01", api.ErrTorn},
		{"\x05\x10\x00\x00\x01\x80", api.ErrForm},
		{"\x05\x00\x00\x00\x01\x88", api.ErrForm},
		{"\x05\x00\x00\x00\x01\xff", api.ErrForm},
		{"\x05\x00\x00\x00\x02\x88", api.ErrTorn},
		{"\x05\x00\x00\x00\x02\x88\x00\x00", api.ErrTorn},
		{"\x05\x00\x00\x00\x02\x88\x00\x00\x00", api.ErrForm},
		{"\x05\x00\x00\x00\x01\x08", api.ErrTorn},
		{"\x05\x00\x00\x00\x01\x08\x00", api.ErrTorn},
		{"\x05\x00\x00\x00\x01\x08\x00\x00", api.ErrForm},
		{"\x05\x00\x00\x00\x01\x7f\x00\x00", api.ErrForm},
		{"\x05\x00\x00\x00\x01\x80\x00\x01", api.ErrForm},
		{"\x06\x10\x00\x00", api.ErrTorn},
		{"\x06\x10\x00\x00\x00", api.ErrForm},
		{"\x06\x00\x00\x00\x00\x00", api.ErrForm},
		{"\x06\x10\x00\x00\x01", api.ErrTorn},
		{"\x06\x10\x00\x00\x02\x00", api.ErrTorn},
		{"\x06\x00\x00\x00\x01\x02\x00\x04\x00", api.ErrTorn},
	} {
		refuses(t, c.s, c.want)
	}
}

// TestTakeNumbers is P5.2: as many micros and lists as are told are read, and only then there are too many of them, or too long ones.
func TestTakeNumbers(t *testing.T) {
	for n := range 256 {
		head := string([]byte{0, 0, 0, byte(n)})
		for _, c := range []struct {
			kind, one  string
			least, max int
		}{
			{"\x05", "\x83", 1, 8},
			{"\x05", "\x03\x01\x02", 1, 8},
			{"\x06", "\x00", 0, 8},
			{"\x06", "\x01\x01\x02", 0, 8},
		} {
			s := c.kind + head + strings.Repeat(c.one, n)
			if n > 0 {
				refuses(t, s[:len(s)-1], api.ErrTorn)
				refuses(t, c.kind+head, api.ErrTorn)
			}
			refuses(t, s+"\x00", api.ErrForm)
			if n < c.least || n > c.max {
				refuses(t, s, api.ErrForm)
			} else {
				takesRight(t, s)
			}
		}
		list := string([]byte{byte(n)}) + strings.Repeat("\x01\x02", n)
		s := "\x06\x00\x00\x00\x01" + list
		refuses(t, s[:len(s)-1], api.ErrTorn)
		refuses(t, "\x06\x00\x00\x00\x02"+list, api.ErrTorn)
		two := "\x06\x00\x00\x00\x02" + list + "\x00"
		if n > 32 {
			refuses(t, s, api.ErrForm)
			refuses(t, two, api.ErrForm)
		} else {
			takes(t, s, api.Event{Kind: api.Commit, Reads: [][]uint16{slices.Repeat([]uint16{258}, n)}}, api.OK)
			takes(t, two, api.Event{Kind: api.Commit, Reads: [][]uint16{slices.Repeat([]uint16{258}, n), nil}}, api.OK)
		}
	}
}

// TestTakeFlags is P5.2: flags above 7 are read as a valid config, whose encoding is another one.
func TestTakeFlags(t *testing.T) {
	for f := range 256 {
		s := "\x01\x02" + string([]byte{byte(f)}) + "\x08\x00\x64\x00\x00\x03\xe8"
		if f > 7 {
			refuses(t, s, api.ErrForm)
			continue
		}
		c := api.Config{Model: api.Map, MaxOpen: 8, MaxStates: 100, MaxSteps: 1000, Partition: f%2 == 1, Cut: f/2%2 == 1, Memo: f/4 == 1}
		takes(t, s, api.Event{Kind: api.Configure, Config: c}, api.OK)
	}
}

// TestTakeConfigs is P5.2: each field of a config with each of its bytes.
func TestTakeConfigs(t *testing.T) {
	for n := range 1 << 16 {
		hi, lo := byte(n/256), byte(n%256)
		takesRight(t, string([]byte{1, lo, 0, hi, 0, 1, 0, 0, 0, 1}))
		takesRight(t, string([]byte{1, 0, 0, 1, hi, lo, 0, 0, 0, 1}))
		takesRight(t, string([]byte{1, 0, 0, 1, 0, 1, 0, hi, lo, 0}))
		takesRight(t, string([]byte{1, 0, 0, 1, 0, 1, 0, 0, hi, lo}))
		takesRight(t, string([]byte{1, 0, 0, 1, 0, 1, 0, 0x10, hi, lo}))
		takesRight(t, string([]byte{1, 0, 0, 1, 0, 1, hi, lo, 0, 0}))
		takesRight(t, string([]byte{1, 0, 0, 1, 0, 1, hi, 0, 0, lo}))
	}
}

// TestTakeInvalid is P5.2: what an event that is not valid would be encoded as, if it can be.
func TestTakeInvalid(t *testing.T) {
	for _, x := range slices.Concat(ofWrongClient(), ofWrongConfig(), ofWrongFields(), ofNoKind(), withMore()) {
		s := bytesOf(x)
		for n := range min(len(s), 700) {
			takesRight(t, s[:n])
		}
		takesRight(t, s)
	}
}

// TestTakeChanged is P5.2 and P5.3: encodings with a byte that is another one, one too much or too few.
func TestTakeChanged(t *testing.T) {
	for _, x := range few() {
		s := bytesOf(x)
		for i := range len(s) + 1 {
			for c := range 256 {
				b := string([]byte{byte(c)})
				takesRight(t, s[:i]+b+s[i:])
				if i < len(s) {
					takesRight(t, s[:i]+b+s[i+1:])
					takesRight(t, s[:i]+b)
				}
			}
			if i < len(s) {
				takesRight(t, s[:i]+s[i+1:])
			}
			takesRight(t, s[i:])
			takesRight(t, s[:i]+"\x00\x00"+s[i:])
			takesRight(t, s[:i]+s)
		}
	}
}

// TestTakeAnyBytes is P5.2, P5.3 and P5.5 of bytes that are small more often than not.
func TestTakeAnyBytes(t *testing.T) {
	n, ok := uint32(1), 0
	next := func(below uint32) uint32 {
		n = n*1664525 + 1013904223
		return n >> 8 % below
	}
	for range 200000 {
		b := []byte{byte(1 + next(7)), byte(next(17))}
		for range next(24) {
			switch next(4) {
			case 0:
				b = append(b, 0)
			case 1:
				b = append(b, byte(next(6)))
			case 2:
				b = append(b, byte(128+next(9)))
			default:
				b = append(b, byte(next(256)))
			}
		}
		takesRight(t, string(b))
		if _, e := taken(string(b)); e == api.OK {
			ok++
		}
	}
	if ok < 100 {
		t.Errorf("only %d of them are events", ok)
	}
}

// TestTakeOwn is P5.5: what is handed back is new memory, no two lists of which share any, and nothing is kept from call to call.
func TestTakeOwn(t *testing.T) {
	for _, x := range few() {
		s := bytesOf(x)
		copied := strings.Clone(s)
		first, _ := event.Take(s)
		second, _ := event.Take(s)
		for i := range first.Reads {
			l := first.Reads[i][:cap(first.Reads[i])]
			for j := range l {
				l[j] = 60000
			}
			for j, other := range first.Reads {
				if j > i && !slices.Equal(other, x.Reads[j]) {
					t.Errorf("% x: list %d has changed with list %d", s, j, i)
				}
			}
		}
		clear(first.Reads[:cap(first.Reads)])
		clear(first.Txn[:cap(first.Txn)])
		if !equal(second, x) || s != copied {
			t.Errorf("% x: %v, and not %v", s, second, x)
		}
		for _, other := range few() {
			event.Take(bytesOf(other))
		}
		event.Take(s[:len(s)-1])
		if !equal(second, x) {
			t.Errorf("% x: later calls have changed %v to %v", s, x, second)
		}
		takes(t, s, x, api.OK)
	}
}

// FuzzTake is P5.2, P5.3 and P5.5 of all strings.
func FuzzTake(f *testing.F) {
	for _, x := range few() {
		f.Add(bytesOf(x))
	}
	f.Fuzz(func(t *testing.T, s string) {
		x, e := taken(s)
		takes(t, s, x, e)
		if e != api.OK {
			return
		}
		puts(t, x, s, api.OK)
		for n := range s {
			refuses(t, s[:n], api.ErrTorn)
		}
	})
}
