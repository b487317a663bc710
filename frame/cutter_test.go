package frame_test

import (
	"fmt"
	"runtime"
	"strings"
	"testing"

	"umpire/frame"
)

// told is what Next tells.
type told struct {
	payload   string
	at, state int
}

func more(at int) told                  { return told{"", at, frame.More} }
func bad(at int) told                   { return told{"", at, frame.Bad} }
func whole(payload string, at int) told { return told{payload, at, frame.Frame} }

func next(c *frame.Cutter) told {
	payload, at, state := c.Next()
	return told{payload, at, state}
}

// expect asks for one thing after the other.
func expect(t *testing.T, name string, c *frame.Cutter, l ...told) {
	t.Helper()
	for i, want := range l {
		if got := next(c); got != want {
			t.Fatalf("%s, Next %d: %.20q at %d, %d, not %.20q at %d, %d", name, i, got.payload, got.at, got.state, want.payload, want.at, want.state)
		}
	}
}

// fed is a Cutter to which these pieces were fed.
func fed(pieces ...string) *frame.Cutter {
	c := frame.New()
	for _, s := range pieces {
		c.Feed(s)
	}
	return c
}

// P2.2: the chapter's examples.
func TestExamples(t *testing.T) {
	c := fed("\x00\x01\xff")
	expect(t, "three bytes", c, more(0))
	c.Feed("\xfeaaa\x00")
	expect(t, "the rest and a byte", c, whole("a", 0), more(7))
	for _, s := range []string{"\x00\x00\xff\xff", "\x00\x01\xff\xff", "\x00\x01\xff\xfeaab"} {
		expect(t, fmt.Sprintf("% x", s), fed(s), bad(0))
	}
}

// P2.2: a new Cutter has nothing.
func TestNewHasNothing(t *testing.T) {
	c := frame.New()
	expect(t, "new", c, more(0), more(0))
	if c.Fed() != 0 {
		t.Errorf("Fed: %d", c.Fed())
	}
	c.Feed("")
	expect(t, "no bytes", c, more(0))
	if c.Fed() != 0 {
		t.Errorf("Fed behind no bytes: %d", c.Fed())
	}
}

// P2.2: two Cutters have nothing in common.
func TestCuttersAreApart(t *testing.T) {
	a, b := frame.New(), frame.New()
	a.Feed(put(t, "a"))
	expect(t, "the other one", b, more(0))
	b.Feed("\x00\x00\xff\xff")
	expect(t, "the bad one", b, bad(0))
	expect(t, "the first one", a, whole("a", 0), more(7))
	if a.Fed() != 7 || b.Fed() != 4 {
		t.Errorf("Fed: %d, %d", a.Fed(), b.Fed())
	}
}

// P2.2: Fed counts all bytes, extracted or not, also those behind a bad frame.
func TestFedCountsAll(t *testing.T) {
	c, n := frame.New(), 0
	for i, s := range []string{put(t, "ab"), "", put(t, mixed(600)) + "\x00", "\x01", "\x00\x00", put(t, "a"), "x"} {
		c.Feed(s)
		n += len(s)
		for range i {
			c.Next()
		}
		if c.Fed() != n {
			t.Errorf("behind piece %d: %d, not %d", i, c.Fed(), n)
		}
	}
	expect(t, "at the end", c, bad(8+606))
}

// P2.2: at each length at which a frame is not complete there is More, as often as one asks, and where the frame begins; at the last byte there is the frame, once.
func TestFrameIsWholeAtItsLastByte(t *testing.T) {
	for _, n := range []int{1, 2, 3, 255, 256, 257, 599, 600} {
		for _, before := range []string{"", "b", mixed(600)} {
			c, at := frame.New(), 0
			if before != "" {
				at = len(before) + 6
				c.Feed(put(t, before))
				expect(t, "before", c, whole(before, 0))
			}
			s := put(t, mixed(n))
			for i := range len(s) {
				expect(t, "not whole", c, more(at), more(at))
				c.Feed(s[i : i+1])
			}
			expect(t, "whole", c, whole(mixed(n), at), more(at+len(s)), more(at+len(s)))
		}
	}
}

// P2.2: one that is told More at a length is told the same if all came in one piece.
func TestEachLengthInOnePiece(t *testing.T) {
	s := put(t, mixed(600))
	for n := range len(s) {
		expect(t, "not whole", fed(s[:n]), more(0))
	}
	expect(t, "whole", fed(s), whole(mixed(600), 0), more(606))
}

// heads are four bytes that no frame begins with.
func heads() []string {
	l := []string{
		"\x00\x00\xff\xff", "\x02\x59\xfd\xa6", "\xff\xff\x00\x00", "\x80\x01\x7f\xfe", "\x00\x00\x00\x00", "\xff\xff\xff\xff",
		"\x00\x01\x00\x01", "\x01\x00\xff\xfe", "\x00\x01\xfe\xff", "\x00\x01\xff\xff", "\x00\x01\xff\xfd",
	}
	for i := range 32 {
		b := []byte("\x02\x58\xfd\xa7")
		b[i/8] ^= 1 << (i % 8)
		l = append(l, string(b))
	}
	return l
}

// P2.2: what cannot be a frame's first four bytes is bad as soon as they are there, and not before.
func TestBadAtFourBytes(t *testing.T) {
	for _, s := range heads() {
		c := frame.New()
		for i := range 4 {
			expect(t, "before", c, more(0))
			c.Feed(s[i : i+1])
		}
		expect(t, "four bytes", c, bad(0), bad(0))
		expect(t, "more behind them", fed(s+mixed(700)), bad(0), bad(0))
		expect(t, "behind a frame", fed(put(t, "ab")+s), whole("ab", 0), bad(8), bad(8))
	}
	expect(t, "600 bytes", fed("\x02\x58\xfd\xa7"), more(0))
	expect(t, "1 byte", fed("\x00\x01\xff\xfe"), more(0))
}

// P2.2: a wrong sum is bad as soon as all of the frame is there, and not before.
func TestBadSum(t *testing.T) {
	for _, n := range []int{1, 2, 600} {
		s := put(t, mixed(n))
		for bit := range 16 {
			b := []byte(s)
			b[len(b)-2+bit/8] ^= 1 << (bit % 8)
			c := fed(put(t, "a"), string(b[:len(b)-1]))
			expect(t, "not whole", c, whole("a", 0), more(7))
			c.Feed(string(b[len(b)-1:]))
			expect(t, "wrong sum", c, bad(7), bad(7))
		}
	}
	expect(t, "the numbers of a sum the other way round", fed("\x00\x02\xff\xfdab\xc3\x25"), bad(0))
	expect(t, "the right way", fed("\x00\x02\xff\xfdab\x25\xc3"), whole("ab", 0))
}

// P2.2: after a bad frame nothing is extracted any more, whatever is fed.
func TestNothingBehindABadFrame(t *testing.T) {
	good := put(t, "good")
	for _, wrong := range []string{"\x00\x00\xff\xff", "\x00\x01\xff\xfeaab"} {
		c := fed(good, wrong, good)
		expect(t, "fed at once", c, whole("good", 0), bad(10), bad(10))
		n := c.Fed()
		for _, s := range []string{good, "", mixed(700), good} {
			c.Feed(s)
			n += len(s)
			expect(t, "fed later", c, bad(10), bad(10))
			if c.Fed() != n {
				t.Errorf("Fed: %d, not %d", c.Fed(), n)
			}
		}
	}
}

// P2.2: nil, and a Cutter that was not made by New.
func TestCutterNotMadeByNew(t *testing.T) {
	for name, c := range map[string]*frame.Cutter{"nil": nil, "zero": {}} {
		for range 2 {
			expect(t, name, c, bad(0), bad(0))
			if c.Fed() != 0 {
				t.Errorf("%s, Fed: %d", name, c.Fed())
			}
			c.Feed("")
			c.Feed(put(t, "a"))
		}
	}
}

// A copy of a Cutter goes on from where it was copied, and neither disturbs the other one.
func TestCopiesAreApart(t *testing.T) {
	one, other := put(t, "hello"), put(t, "jumps")
	for k := range 5 {
		for _, ahead := range []string{"", mixed(600)} {
			a, at := fed(), 0
			if ahead != "" {
				at = 606
				a.Feed(put(t, ahead) + one[:k])
				expect(t, "ahead", a, whole(ahead, 0))
			} else {
				a.Feed(one[:k])
			}
			b := *a
			for i := k; i < len(one); i++ {
				a.Feed(one[i : i+1])
				b.Feed(other[i : i+1])
			}
			expect(t, "the first one", a, whole("hello", at), more(at+11))
			expect(t, "the copy", &b, whole("jumps", at), more(at+11))
			if a.Fed() != at+11 || b.Fed() != at+11 {
				t.Errorf("Fed: %d, %d", a.Fed(), b.Fed())
			}
		}
	}
}

// streams are bytes of all kinds: frames, what is behind them, and what was never a frame.
func streams(t *testing.T) map[string]string {
	frames := ""
	for _, n := range []int{1, 600, 2, 255, 256, 3, 1, 1, 100} {
		frames += put(t, mixed(n))
	}
	return map[string]string{
		"nothing": "", "frames": frames, "part of a frame behind them": frames + put(t, mixed(300))[:200],
		"part of a head behind them": frames + "\x02\x59\xfd", "bad head behind them": frames + "\x02\x59\xfd\xa6" + frames,
		"bad sum behind them": frames + "\x00\x01\xff\xfeaab" + frames, "bad head": "\x00\x00\x00\x00" + frames, "no frames": mixed(3000),
		"zeros": strings.Repeat("\x00", 50), "frames in a frame": put(t, put(t, "a")+put(t, "b")) + put(t, "c"),
	}
}

// division is how a stream is divided: into pieces, of which some may be empty.
func division(s string, size func(i int) int) []string {
	var l []string
	for i := 0; s != ""; i++ {
		n := min(size(i), len(s))
		l, s = append(l, s[:n]), s[n:]
	}
	return l
}

func divisions(s string) map[string][]string {
	l := map[string][]string{"one": {s}, "one between empty ones": {"", s, ""}}
	for name, n := range map[string]int{"ones": 1, "twos": 2, "threes": 3, "sevens": 7, "hundreds": 100, "six hundred and sixes": 606} {
		l[name] = division(s, func(int) int { return n })
	}
	l["ones and empty ones"] = division(s, func(i int) int { return i % 3 % 2 })
	l["all sizes"] = division(s, func(i int) int { return i * i % 23 })
	return l
}

// extracted is what Next tells until there is no frame, or more of them than there can be.
func extracted(c *frame.Cutter) []told {
	var l []told
	for range c.Fed()/7 + 2 {
		x := next(c)
		l = append(l, x)
		if x.state != frame.Frame {
			break
		}
	}
	return l
}

// P2.3: payloads come out as they were put in, where their frames begin, in whatever pieces these come.
func TestPayloadsComeOut(t *testing.T) {
	var payloads []string
	for i := range 120 {
		payloads = append(payloads, mixed(1+i*i*7%600))
	}
	payloads = append(payloads, mixed(600), "\x00", "\xff", strings.Repeat("\x00", 600), strings.Repeat("\xff", 600), put(t, "a"))
	s, want := "", []told{}
	for _, p := range payloads {
		want = append(want, whole(p, len(s)))
		s += put(t, p)
	}
	want = append(want, more(len(s)))
	for name, pieces := range divisions(s) {
		c := fed(pieces...)
		expect(t, name+", all fed first", c, want...)
		c, rest := frame.New(), want
		for _, p := range pieces {
			c.Feed(p)
			for _, x := range extracted(c) {
				if x.state == frame.Frame {
					expectSame(t, name, x, rest[0])
					rest = rest[1:]
				}
			}
		}
		if len(rest) != 1 || c.Fed() != len(s) {
			t.Errorf("%s: %d are left, Fed %d", name, len(rest)-1, c.Fed())
		}
	}
}

func expectSame(t *testing.T, name string, got, want told) {
	t.Helper()
	if got != want {
		t.Fatalf("%s: %.20q at %d, %d, not %.20q at %d, %d", name, got.payload, got.at, got.state, want.payload, want.at, want.state)
	}
}

// P2.4: after the same bytes Next tells the same, one by one, whatever the pieces were and whenever one asked before.
func TestPiecesMakeNoDifference(t *testing.T) {
	for kind, s := range streams(t) {
		for name, pieces := range divisions(s) {
			asked, frames, n := frame.New(), []told{}, 0
			for _, p := range pieces {
				asked.Feed(p)
				n += len(p)
				l := extracted(asked)
				frames = append(frames, l[:len(l)-1]...)
				want := append(frames[:len(frames):len(frames)], l[len(l)-1])
				expect(t, kind+" in "+name, fed(s[:n]), want...)
			}
			expect(t, kind+" in "+name+", all fed first", fed(pieces...), extracted(fed(s))...)
		}
	}
}

// P2.4: a long stream in pieces of one byte is as good as one in one piece, also if nobody asks in between.
func TestManyPieces(t *testing.T) {
	s := strings.Repeat(put(t, mixed(600))+put(t, "a"), 3000)
	c := frame.New()
	for i := range len(s) {
		c.Feed(s[i : i+1])
	}
	expect(t, "ones", c, extracted(fed(s))...)
}

// heap is how many bytes are in use.
func heap() int {
	runtime.GC()
	var m runtime.MemStats
	runtime.ReadMemStats(&m)
	return int(m.HeapAlloc)
}

// No more is kept than what may still be extracted: nothing of frames that were, and nothing behind a bad one.
func TestLittleIsKept(t *testing.T) {
	const size, most = 32 << 20, 4 << 20
	frames := strings.Repeat(put(t, mixed(600)), size/606)
	for name, s := range map[string]string{"frames": frames, "bad": "\x00\x00\x00\x00" + frames} {
		before := heap()
		c := fed(s)
		extracted(c)
		if n := heap() - before; n > most {
			t.Errorf("%s, fed at once: %d bytes are kept", name, n)
		}
		for _, p := range division(s, func(int) int { return 1 << 16 }) {
			c.Feed(p)
			extracted(c)
		}
		if n := heap() - before; n > most {
			t.Errorf("%s, fed in pieces: %d bytes are kept", name, n)
		}
		if c.Fed() != 2*len(s) {
			t.Errorf("%s, Fed: %d", name, c.Fed())
		}
	}
}

// P2.5: a frame in which one byte is another one is bad; but a payload may have 255 for 0, and 0 for 255.
func TestOneByteChanged(t *testing.T) {
	for _, payload := range []string{"a", "\x00", "\xff", "\x00\xff", "\xff\x00\x00", "ab\x00cd\xffef", mixed(600)} {
		s := put(t, payload)
		for i := range len(s) {
			for x := range 256 {
				b := []byte(s)
				b[i] = byte(x)
				if b[i] == s[i] || len(payload) == 600 && (x^i)%29 > 2 && x != int(255-s[i]) {
					continue
				}
				want := bad(7)
				if i >= 4 && i < len(s)-2 && b[i]%255 == 0 && s[i]%255 == 0 {
					want = whole(string(b[4:len(s)-2]), 7)
				}
				expect(t, "changed", fed(put(t, "a"), string(b), put(t, "a")), whole("a", 0), want)
			}
		}
	}
}

// P2.5: no call panics, and each Next after a whole stream ends.
func TestAnyBytes(t *testing.T) {
	for n := range 300 {
		for _, s := range []string{mixed(n), "\x00\x01\xff\xfe" + mixed(n), "\x01\x00\xfe\xff" + mixed(n), "\x02\x58\xfd\xa7" + mixed(3*n)} {
			c := fed(s)
			if l := extracted(c); len(l) > 1+len(s)/7 || c.Fed() != len(s) {
				t.Errorf("% x: %d, %d", s, len(l), c.Fed())
			}
		}
	}
}
