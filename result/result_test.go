package result_test

import (
	"fmt"
	"slices"
	"testing"

	"umpire/api"
	"umpire/codec"
	"umpire/result"
)

// kinds are all of them.
func kinds() []uint8 { return []uint8{api.Done, api.Value, api.None, api.Yes, api.No} }

// numbers are Vs at which the bytes or the digits of a V change, and some between them.
func numbers() []uint16 {
	return []uint16{0, 1, 7, 9, 10, 11, 99, 100, 255, 256, 258, 999, 1000, 9999, 10000, 32767, 32768, 65280, 65534, 65535}
}

// valid are all valid results.
func valid() []api.Result {
	l := []api.Result{{K: api.Done}, {K: api.None}, {K: api.Yes}, {K: api.No}}
	for v := range 1 << 16 {
		l = append(l, api.Result{K: api.Value, V: uint16(v)})
	}
	return l
}

// invalid are results of each other kind, and those that have a V and are not of kind Value.
func invalid() []api.Result {
	var l []api.Result
	for k := range 256 {
		for _, v := range numbers() {
			if k > 4 || k != api.Value && v != 0 {
				l = append(l, api.Result{K: uint8(k), V: v})
			}
		}
	}
	return l
}

// bytesOf is the encoding of a valid result, by the definition.
func bytesOf(r api.Result) string {
	if r.K == api.Value {
		return string([]byte{1, byte(r.V / 256), byte(r.V % 256)})
	}
	return string([]byte{r.K})
}

// textOf is the text of a valid result, by the definition.
func textOf(r api.Result) string {
	if r.K == api.Value {
		return fmt.Sprintf("value %d", r.V)
	}
	return map[uint8]string{api.Done: "done", api.None: "none", api.Yes: "yes", api.No: "no"}[r.K]
}

// takes takes a result from c and tells whether it is that one, with that error, and where c is then.
func takes(t *testing.T, what string, c *codec.Reader, want api.Result, wantErr api.Errno, at int) {
	t.Helper()
	if r, e := result.Take(c); r != want || e != wantErr || c.At() != at {
		t.Fatalf("%s: %v, %d, At %d, and not %v, %d, At %d", what, r, e, c.At(), want, wantErr, at)
	}
}

// TestExamples are the chapter's examples.
func TestExamples(t *testing.T) {
	for _, x := range []struct {
		call      string
		got, want any
	}{
		{"Put of Value 258", both(result.Put(api.Result{K: api.Value, V: 258})), both("\x01\x01\x02", api.OK)},
		{"Put of No", both(result.Put(api.Result{K: api.No})), both("\x04", api.OK)},
		{"Put of Done with V 1", both(result.Put(api.Result{K: api.Done, V: 1})), both("", api.ErrForm)},
		{"Text of Value 7", both(result.Text(api.Result{K: api.Value, V: 7})), both("value 7", api.OK)},
		{"Parse of value 7", both(result.Parse("value 7")), both(api.Result{K: api.Value, V: 7}, api.OK)},
		{"Parse of value 07", both(result.Parse("value 07")), both(api.Result{}, api.ErrForm)},
		{"Parse of value 65536", both(result.Parse("value 65536")), both(api.Result{}, api.ErrForm)},
		{"Parse of yes", both(result.Parse("yes")), both(api.Result{K: api.Yes}, api.OK)},
		{"Parse of Yes", both(result.Parse("Yes")), both(api.Result{}, api.ErrForm)},
		{"Parse of value", both(result.Parse("value")), both(api.Result{}, api.ErrForm)},
		{"Kinds of Deq", fmt.Sprint(slices.Collect(result.Kinds(api.Deq))), fmt.Sprint([]uint8{api.Value, api.None})},
		{"Kinds of Write", fmt.Sprint(slices.Collect(result.Kinds(api.Write))), fmt.Sprint([]uint8{api.Done})},
		{"Kinds of 99", fmt.Sprint(slices.Collect(result.Kinds(99))), fmt.Sprint([]uint8{})},
		{"May(Read, Value 5)", result.May(api.Read, api.Result{K: api.Value, V: 5}), api.OK},
		{"May(Read, None)", result.May(api.Read, api.Result{K: api.None}), api.ErrForeign},
		{"May(99, Done)", result.May(99, api.Result{K: api.Done}), api.ErrForeign},
		{"May(Write, Done with V 1)", result.May(api.Write, api.Result{K: api.Done, V: 1}), api.ErrForm},
	} {
		if x.got != x.want {
			t.Errorf("%s: %v, and not %v", x.call, x.got, x.want)
		}
	}
}

// both is what a call with two results returns.
func both[A comparable](a A, e api.Errno) any {
	return struct {
		a A
		e api.Errno
	}{a, e}
}

// TestValid is P3.1 of all valid results.
func TestValid(t *testing.T) {
	for _, r := range valid() {
		if e := result.Check(r); e != api.OK {
			t.Errorf("Check of %v: %d", r, e)
		}
		if s, e := result.Put(r); s != bytesOf(r) || e != api.OK {
			t.Errorf("Put of %v: %x, %d", r, s, e)
		}
		if s, e := result.Text(r); s != textOf(r) || e != api.OK {
			t.Errorf("Text of %v: %q, %d", r, s, e)
		}
	}
}

// TestInvalid is P3.1 of results that are not valid.
func TestInvalid(t *testing.T) {
	for _, r := range invalid() {
		if e := result.Check(r); e != api.ErrForm {
			t.Errorf("Check of %v: %d", r, e)
		}
		if s, e := result.Put(r); s != "" || e != api.ErrForm {
			t.Errorf("Put of %v: %x, %d", r, s, e)
		}
		if s, e := result.Text(r); s != "" || e != api.ErrForm {
			t.Errorf("Text of %v: %q, %d", r, s, e)
		}
	}
}

// TestTake is P3.2 and P3.4: each encoding is read back, and no byte behind it.
func TestTake(t *testing.T) {
	for _, r := range valid() {
		s, e := result.Put(r)
		if e != api.OK {
			t.Fatalf("Put of %v: %d", r, e)
		}
		takes(t, "alone", codec.Over(s), r, api.OK, len(s))
		c := codec.Over("#" + s + "\xff")
		c.U8()
		takes(t, "between other bytes", c, r, api.OK, 1+len(s))
		if n := c.U8(); n != 0xff || c.Close() != api.OK {
			t.Errorf("behind %v: %d, Close %d", r, n, c.Close())
		}
	}
}

// TestTakeOneAfterTheOther is P3.2: many results from one reader.
func TestTakeOneAfterTheOther(t *testing.T) {
	var l []api.Result
	s, at := "", 0
	for i, v := range numbers() {
		l = append(l, api.Result{K: api.Value, V: v}, api.Result{K: []uint8{0, 2, 3, 4}[i%4]})
	}
	for _, r := range l {
		s += bytesOf(r)
	}
	c := codec.Over(s)
	for i, r := range l {
		at += len(bytesOf(r))
		takes(t, fmt.Sprint("result ", i), c, r, api.OK, at)
	}
	takes(t, "behind the last one", c, api.Result{}, api.ErrTorn, len(s))
}

// TestTakeTorn is P3.2: bytes that are missing, of a result and behind Value.
func TestTakeTorn(t *testing.T) {
	for _, s := range []string{"", "\x01", "\x01\x00", "\x01\x01", "\x01\xff"} {
		at := min(len(s), 1)
		c := codec.Over(s)
		takes(t, fmt.Sprintf("% x", s), c, api.Result{}, api.ErrTorn, at)
		takes(t, fmt.Sprintf("% x once more", s), c, api.Result{}, api.ErrTorn, at)
		if c.Err() != api.ErrTorn {
			t.Errorf("% x: Err %d", s, c.Err())
		}
	}
}

// TestTakeNoKind is P3.2: a byte that is not a kind is read alone, whatever is behind it, and is no error of the reader.
func TestTakeNoKind(t *testing.T) {
	for k := 5; k < 256; k++ {
		for _, behind := range []string{"", "\x00", "\x01", "\x01\x02\x03", "\x04", "\x05", "\xff\xff\xff"} {
			c := codec.Over(string([]byte{byte(k)}) + behind)
			takes(t, fmt.Sprintf("%x % x", k, behind), c, api.Result{}, api.ErrForm, 1)
			if c.Err() != api.OK || c.Raw(len(behind)) != behind || c.Close() != api.OK {
				t.Errorf("%x % x: At %d, error %d", k, behind, c.At(), c.Err())
			}
		}
	}
	c := codec.Over("\x05\x01\x00\x07\x80\x03")
	takes(t, "not a kind", c, api.Result{}, api.ErrForm, 1)
	takes(t, "a result behind it", c, api.Result{K: api.Value, V: 7}, api.OK, 4)
	takes(t, "not a kind again", c, api.Result{}, api.ErrForm, 5)
	takes(t, "the last result", c, api.Result{K: api.Yes}, api.OK, 6)
}

// TestTakeAfterAnError is P3.2: the error of the reader comes before what is wrong with the bytes, and nothing is read.
func TestTakeAfterAnError(t *testing.T) {
	for _, s := range []string{"", "\x00", "\x01", "\x02", "\x03\x04", "\x05", "\xff", "\x01\x00\x07", "\x05\x05\x05"} {
		c := codec.Over("#" + s)
		c.U8()
		c.U32()
		takes(t, fmt.Sprintf("% x", s), c, api.Result{}, api.ErrTorn, 1)
		takes(t, fmt.Sprintf("% x once more", s), c, api.Result{}, api.ErrTorn, 1)
	}
	takes(t, "nil", nil, api.Result{}, api.ErrNil, 0)
	takes(t, "a reader over nothing", &codec.Reader{}, api.Result{}, api.ErrTorn, 0)
}

// taken is what Take returns of s, by the definition, and how many bytes it reads.
func taken(s string) (api.Result, api.Errno, int) {
	switch {
	case s == "":
		return api.Result{}, api.ErrTorn, 0
	case s[0] > 4:
		return api.Result{}, api.ErrForm, 1
	case s[0] != api.Value:
		return api.Result{K: s[0]}, api.OK, 1
	case len(s) < 3:
		return api.Result{}, api.ErrTorn, 1
	}
	return api.Result{K: api.Value, V: uint16(s[1])<<8 | uint16(s[2])}, api.OK, 3
}

// TestTakeAnyBytes is P3.2 and P3.4: what is taken has the encoding that was read; from other bytes nothing is taken.
func TestTakeAnyBytes(t *testing.T) {
	for n := range 1 << 16 {
		for _, behind := range []string{"", "\x00", "\x01", "\xff\x01"} {
			s := string([]byte{byte(n >> 8), byte(n)}) + behind
			r, e, at := taken(s)
			takes(t, "any bytes", codec.Over(s), r, e, at)
			if e != api.OK {
				continue
			}
			if b, e := result.Put(r); b != s[:at] || e != api.OK {
				t.Fatalf("% x: %v, whose encoding is % x, %d", s, r, b, e)
			}
		}
	}
}
