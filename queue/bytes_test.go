package queue_test

import (
	"slices"
	"testing"

	"umpire/api"
	"umpire/queue"
)

// encodes tells whether that is the encoding of the state with the values l.
func encodes(t *testing.T, l []uint16, want string) {
	t.Helper()
	if text := queue.Encode(queue.Of(l)); text != want {
		t.Errorf("Encode of %v: % x, and not % x", l, text, want)
	}
}

// decodes tells whether Decode of text is the state with these values, or that error.
func decodes(t *testing.T, text string, want []uint16, wantErr api.Errno) {
	t.Helper()
	if s, e := queue.Decode(text); !slices.Equal(queue.Values(s), want) || e != wantErr {
		t.Errorf("Decode of % x: %v, %d, and not %v, %d", text, queue.Values(s), e, want, wantErr)
	}
}

// TestEncode is P10.3: of no value, of one and of several, each as two bytes, the high one first.
func TestEncode(t *testing.T) {
	encodes(t, nil, "")
	for v, want := range map[uint16]string{0: "\x00\x00", 1: "\x00\x01", 255: "\x00\xff", 256: "\x01\x00", 257: "\x01\x01", 258: "\x01\x02", 513: "\x02\x01", 32768: "\x80\x00", 65534: "\xff\xfe", 65535: "\xff\xff"} {
		encodes(t, of(v), want)
		encodes(t, of(5, v), "\x00\x05"+want)
		encodes(t, of(v, 5), want+"\x00\x05")
		encodes(t, of(v, v, v), want+want+want)
	}
	encodes(t, of(1, 2, 256, 512), "\x00\x01\x00\x02\x01\x00\x02\x00")
	encodes(t, of(512, 256, 2, 1), "\x02\x00\x01\x00\x00\x02\x00\x01")
}

// TestDecode is P10.3: of texts of no byte, of one, of two, of three, of four bytes, and of more.
func TestDecode(t *testing.T) {
	decodes(t, "", nil, api.OK)
	for _, text := range []string{"\x00", "\x01", "\xff", "5", "\x00\x05\x01", "\x00\x00\x00", "\xff\xff\xff", "\x00\x01\x00\x02\x00", string(make([]byte, 65537))} {
		decodes(t, text, nil, api.ErrTorn)
	}
	decodes(t, "\x00\x00", of(0), api.OK)
	decodes(t, "\x00\x05", of(5), api.OK)
	decodes(t, "\x01\x02", of(258), api.OK)
	decodes(t, "\x80\x00", of(32768), api.OK)
	decodes(t, "\xff\xff", of(65535), api.OK)
	decodes(t, "é", of(0xc3a9), api.OK)
	decodes(t, "\x00\x00\x00\x00", of(0, 0), api.OK)
	decodes(t, "\x01\x00\x00\x01", of(256, 1), api.OK)
	decodes(t, "\x00\x01\x01\x00", of(1, 256), api.OK)
	decodes(t, "\x00\x01\x00\x02\x00\x03", of(1, 2, 3), api.OK)
	decodes(t, string(make([]byte, 65536)), make([]uint16, 32768), api.OK)
}

// TestDecodeEncode is P10.5: Decode of Encode is the state, however it was made.
func TestDecodeEncode(t *testing.T) {
	for _, l := range examples() {
		for name, s := range made(l) {
			text := queue.Encode(s)
			encodes(t, l, text)
			back, e := queue.Decode(text)
			has(t, back, l...)
			if e != api.OK || !queue.Same(back, s) || !queue.Same(s, back) {
				t.Errorf("Decode of Encode of %v by %s: %v, %d", l, name, queue.Values(back), e)
			}
			takes(t, back, l...)
		}
	}
}

// made is the state with these values, made in each of the ways that there are.
func made(l []uint16) map[string]queue.State {
	var ops []api.Op
	text := make([]byte, 0)
	stepped := queue.New()
	for _, v := range l {
		ops = append(ops, enq(v))
		stepped, _, _ = queue.Step(stepped, enq(v))
		text = append(text, byte(v/256), byte(v%256))
	}
	run, _, _ := queue.Run(queue.New(), ops)
	refused, _, _ := queue.Run(queue.New(), append(slices.Clone(ops), read, enq(9)))
	decoded, _ := queue.Decode(string(text))
	front := append(of(8, 9), l...)
	behind, _, _ := queue.Step(queue.Of(front), deq)
	behind, _, _ = queue.Step(behind, deq)
	together, _, _ := queue.Run(queue.Of(front[:2]), append(slices.Clone(ops), deq, deq))
	return map[string]queue.State{"Of": queue.Of(l), "Step": stepped, "Run": run, "Run up to an error": refused, "Decode": decoded, "Step of Deq": behind, "Run to Deq": together}
}

// TestSameMade is P10.3: states with the same values are the same, however they were made.
func TestSameMade(t *testing.T) {
	for _, l := range examples() {
		all := made(l)
		for name, a := range all {
			for other, b := range all {
				if !queue.Same(a, b) || queue.Encode(a) != queue.Encode(b) {
					t.Errorf("Same of %v by %s and by %s: %t, % x, % x", l, name, other, queue.Same(a, b), queue.Encode(a), queue.Encode(b))
				}
			}
		}
	}
}

// TestNotSame is P10.3: states of different lengths, of values that differ at one place, and of the same ones in another order.
func TestNotSame(t *testing.T) {
	for _, c := range [][2][]uint16{
		{nil, of(0)}, {nil, of(5)}, {nil, of(0, 0)}, {of(0), of(0, 0)}, {of(1, 2), of(1, 2, 3)}, {of(2, 3), of(1, 2, 3)}, {of(1, 2, 3), of(1, 2, 3, 0)},
		{of(5), of(6)}, {of(0), of(1)}, {of(1), of(256)}, {of(1), of(257)}, {of(0), of(256)}, {of(0), of(65535)},
		{of(1, 2, 3), of(9, 2, 3)}, {of(1, 2, 3), of(1, 9, 3)}, {of(1, 2, 3), of(1, 2, 9)}, {of(1, 2, 3), of(257, 2, 3)}, {of(1, 2, 3), of(1, 2, 259)},
		{of(1, 2), of(2, 1)}, {of(1, 2, 3), of(3, 2, 1)}, {of(1, 2, 3), of(2, 3, 1)}, {of(1, 1, 2), of(1, 2, 2)}, {of(1, 1, 2), of(1, 2, 1)},
	} {
		for name, a := range made(c[0]) {
			for other, b := range made(c[1]) {
				if queue.Same(a, b) || queue.Same(b, a) || queue.Encode(a) == queue.Encode(b) {
					t.Errorf("%v by %s and %v by %s: %t, %t, % x, % x", c[0], name, c[1], other, queue.Same(a, b), queue.Same(b, a), queue.Encode(a), queue.Encode(b))
				}
			}
		}
	}
}

// TestSameIsEncoding is P10.5: over all pairs of short states of few values, they are the same exactly if they have the same values, and exactly if their encodings are equal.
func TestSameIsEncoding(t *testing.T) {
	var all [][]uint16
	lists(of(0, 1, 256), 4, func(l []uint16) { all = append(all, l) })
	for _, a := range all {
		for _, b := range all {
			want := slices.Equal(a, b)
			s, u := queue.Of(a), queue.Of(b)
			if got := queue.Same(s, u); got != want {
				t.Fatalf("Same of %v and %v: %t", a, b, got)
			}
			if got := queue.Encode(s) == queue.Encode(u); got != want {
				t.Fatalf("Encode of %v and of %v are equal: %t", a, b, got)
			}
		}
	}
}

// TestEveryValue is P10.5: each value that there is comes back from its encoding, at the first place and at the last one.
func TestEveryValue(t *testing.T) {
	for n := range 1 << 16 {
		l := of(uint16(n), 258, uint16(n))
		text := string([]byte{byte(n / 256), byte(n % 256), 1, 2, byte(n / 256), byte(n % 256)})
		if got := queue.Encode(queue.Of(l)); got != text {
			t.Fatalf("Encode of %v: % x", l, got)
		}
		if s, e := queue.Decode(text); !slices.Equal(queue.Values(s), l) || e != api.OK {
			t.Fatalf("Decode of % x: %v, %d", text, queue.Values(s), e)
		}
	}
}

// FuzzDecode is P10.3 and P10.5 of all texts.
func FuzzDecode(f *testing.F) {
	for _, text := range []string{"", "\x00", "\x00\x05\x01\x02", "\xff\xff\xff"} {
		f.Add(text)
	}
	f.Fuzz(func(t *testing.T, text string) {
		s, e := queue.Decode(text)
		if len(text)%2 == 1 {
			decodes(t, text, nil, api.ErrTorn)
			return
		}
		if back := queue.Encode(s); back != text || e != api.OK || 2*len(queue.Values(s)) != len(text) {
			t.Errorf("Encode of Decode of % x: % x, %d", text, back, e)
		}
	})
}
