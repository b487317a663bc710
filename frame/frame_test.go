package frame_test

import (
	"strings"
	"testing"

	"umpire/api"
	"umpire/frame"
)

// mixed are n bytes that neither repeat soon nor leave out any byte.
func mixed(n int) string {
	b, x := make([]byte, n), uint32(n)+1
	for i := range b {
		x = x*1664525 + 1013904223
		b[i] = byte(x >> 24)
	}
	return string(b)
}

// summed is the sum by its definition in one formula: the first number is that of all bytes, the second one counts each byte once for itself and once for each behind it.
func summed(s string) uint16 {
	first, second := 0, 0
	for i := range len(s) {
		first += int(s[i])
		second += int(s[i]) * (len(s) - i)
	}
	return uint16(second%255<<8 | first%255)
}

// framed is a frame byte by byte.
func framed(payload string) string {
	n, sum := len(payload), summed(payload)
	not := 65535 - n
	b := []byte{byte(n / 256), byte(n % 256), byte(not / 256), byte(not % 256)}
	b = append(b, payload...)
	return string(append(b, byte(sum>>8), byte(sum)))
}

// put is the frame of a payload that can have one.
func put(t *testing.T, payload string) string {
	t.Helper()
	s, e := frame.Put(payload)
	if e != api.OK {
		t.Fatalf("Put of %d bytes: %d", len(payload), e)
	}
	return s
}

// P2.1: the sums of the chapter's examples, and those at which a number passes 255.
func TestSumIsAsDefined(t *testing.T) {
	for _, x := range []struct {
		s    string
		want uint16
	}{
		{"", 0}, {"abcde", 0xc8f0}, {"abcdef", 0x2057}, {"abcdefgh", 0x0627},
		{"a", 0x6161}, {"\x00", 0}, {"\xff", 0}, {"\xfe", 0xfefe}, {"\xfe\x01", 0xfe00}, {"\xfe\x02", 0x0001}, {"\x01\x00", 0x0201}, {"\x00\x01", 0x0101},
	} {
		if n := frame.Sum(x.s); n != x.want {
			t.Errorf("Sum of % x: %04x, not %04x", x.s, n, x.want)
		}
	}
}

// P2.1: a sum of any length is that of the definition: also of more bytes than a frame has, and of those that make the numbers greatest.
func TestSumOfAnyLength(t *testing.T) {
	for _, n := range []int{1, 2, 3, 254, 255, 256, 257, 600, 601, 65535, 65536, 1 << 20} {
		for _, s := range []string{mixed(n), strings.Repeat("\xff", n), strings.Repeat("\xfe", n), strings.Repeat("\x00", n)} {
			if got := frame.Sum(s); got != summed(s) {
				t.Errorf("Sum of %d bytes that begin with %x: %04x, not %04x", n, s[0], got, summed(s))
			}
		}
	}
}

// P2.1: the chapter's example, byte by byte.
func TestPutOfOneByte(t *testing.T) {
	if s := put(t, "a"); s != "\x00\x01\xff\xfeaaa" {
		t.Errorf("% x", s)
	}
}

// P2.1: payloads of 1 to 600 bytes have a frame; of no bytes and of 601, none.
func TestPutOfEachLength(t *testing.T) {
	for n := 1; n <= api.MaxFrame; n++ {
		if s := put(t, mixed(n)); s != framed(mixed(n)) {
			t.Errorf("%d bytes: % x", n, s)
		}
	}
	for _, x := range []struct {
		n    int
		want api.Errno
	}{{0, api.ErrArg}, {601, api.ErrLong}, {602, api.ErrLong}, {65536, api.ErrLong}, {65537, api.ErrLong}, {1 << 20, api.ErrLong}} {
		if s, e := frame.Put(mixed(x.n)); s != "" || e != x.want {
			t.Errorf("%d bytes: %d bytes, %d", x.n, len(s), e)
		}
	}
}
