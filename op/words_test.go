package op_test

import (
	"regexp"
	"slices"
	"strconv"
	"strings"
	"testing"

	"umpire/api"
	"umpire/op"
)

// parses tells whether Parse of l is that.
func parses(t *testing.T, l []string, want api.Op, wantErr api.Errno) {
	t.Helper()
	if x, e := op.Parse(l); x != want || e != wantErr {
		t.Fatalf("Parse of %.200q: %v, %d, and not %v, %d", l, x, e, want, wantErr)
	}
}

// refusesWords tells whether Parse of l is ErrForm, and no operation.
func refusesWords(t *testing.T, l ...string) {
	t.Helper()
	parses(t, l, api.Op{}, api.ErrForm)
}

// digits are those of a number, which has no leading zeros.
var digits = regexp.MustCompile("^(0|[1-9][0-9]{0,4})$")

// parsed is what Parse returns, by the definition of an operation's words.
func parsed(l []string) (api.Op, api.Errno) {
	for f, is := range listed {
		if len(l) != 2+len(is.needs) || l[1] != is.name {
			continue
		}
		n := map[string]int{}
		for i, word := range slices.Concat(l[:1], l[2:]) {
			v, _ := strconv.Atoi(word)
			if !digits.MatchString(word) || v > 65535 {
				return api.Op{}, api.ErrForm
			}
			n[("o" + is.needs)[i:i+1]] = v
		}
		if n["o"] > 7 || n["k"] > 7 {
			return api.Op{}, api.ErrForm
		}
		return api.Op{F: f, Obj: uint8(n["o"]), Key: uint8(n["k"]), A: uint16(n["a"]), B: uint16(n["b"])}, api.OK
	}
	return api.Op{}, api.ErrForm
}

// parsesRight tells whether Parse of l is right, and Words of what is parsed are l.
func parsesRight(t *testing.T, l []string) {
	t.Helper()
	x, e := parsed(l)
	parses(t, l, x, e)
	if w := op.Words(x); e == api.OK && !slices.Equal(w, l) {
		t.Fatalf("Words of what %q are: %q", l, w)
	}
}

// TestWordsExamples are the chapter's examples of words.
func TestWordsExamples(t *testing.T) {
	if l := op.Words(api.Op{F: api.CAS, Obj: 3, A: 2, B: 258}); !slices.Equal(l, []string{"3", "cas", "2", "258"}) {
		t.Errorf("%q", l)
	}
	parses(t, []string{"0", "get", "7"}, api.Op{F: api.Get, Key: 7}, api.OK)
	for _, s := range []string{"0 get 8", "0 get", "00 read", "0 write 65536", "0 Read"} {
		refusesWords(t, strings.Split(s, " ")...)
	}
}

// TestWords is P4.3 and P4.4: the words of what is valid, of which Parse is the operation, and none for the others.
func TestWords(t *testing.T) {
	valid, others := split()
	for _, x := range valid {
		l := op.Words(x)
		if !slices.Equal(l, strings.Split(wordsOf(x), " ")) {
			t.Fatalf("Words of %v: %q", x, l)
		}
		parses(t, l, x, api.OK)
	}
	for _, x := range others {
		if l := op.Words(x); len(l) != 0 {
			t.Fatalf("Words of %v: %q", x, l)
		}
	}
}

// TestParseNumbers is P4.3 of all numbers that A and B can be, and all that Obj and Key can be.
func TestParseNumbers(t *testing.T) {
	for n := range 1 << 16 {
		a, b := uint16(n), uint16(n)*3
		x := api.Op{F: api.Swap, Obj: uint8(n % 8), Key: uint8(n / 8 % 8), A: a, B: b}
		l := strings.Split(wordsOf(x), " ")
		parses(t, l, x, api.OK)
		if w := op.Words(x); !slices.Equal(w, l) {
			t.Fatalf("Words of %v: %q", x, w)
		}
	}
}

// TestParseTooFewOrTooMany is P4.3: words that are too few, too many, empty, or in another order.
func TestParseTooFewOrTooMany(t *testing.T) {
	refusesWords(t)
	refusesWords(t, []string{}...)
	for f := range listed {
		l := strings.Split(wordsOf(wide(f)), " ")
		parses(t, l, wide(f), api.OK)
		for n := range l {
			refusesWords(t, l[:n]...)
			refusesWords(t, l[n+1:]...)
			refusesWords(t, slices.Delete(slices.Clone(l), n, n+1)...)
			if n != 1 {
				refusesWords(t, replaced(l, n, "")...)
			}
		}
		for n := range len(l) + 1 {
			for _, w := range []string{"", "0", "1", "7", l[1], " "} {
				refusesWords(t, slices.Insert(slices.Clone(l), n, w)...)
			}
		}
		refusesWords(t, l[0], "", l[1])
		refusesWords(t, strings.Join(l, " "))
		refusesWords(t, slices.Concat([]string{l[1], l[0]}, l[2:])...)
		refusesWords(t, slices.Concat(l, l)...)
	}
	refusesWords(t, "")
	refusesWords(t, "0")
	refusesWords(t, "read")
	refusesWords(t, "0", "")
	refusesWords(t, "", "")
	refusesWords(t, "", "", "", "", "")
	refusesWords(t, slices.Repeat([]string{"0"}, 1000)...)
}

// wide is an operation with this F in which all that it needs is other than 0.
func wide(f uint8) api.Op {
	x, l := api.Op{F: f, Obj: 5}, listed[f]
	if l.need("k") {
		x.Key = 6
	}
	if l.need("a") {
		x.A = 1200
	}
	if l.need("b") {
		x.B = 34
	}
	return x
}

// replaced is l with another word at n.
func replaced(l []string, n int, word string) []string {
	c := slices.Clone(l)
	c[n] = word
	return c
}

// notNumbers are words that are not the digits of any number.
func notNumbers() []string {
	return []string{
		"", " ", "a", "x", "-", "+", "00", "01", "07", "007", "000000000000000000007", "+1", "-1", "-0", "+0", "--1", "- 1", "1 ", " 1", "1\n", "\t1", "1\x00", "0x1", "0b1", "0o7", "1_0", "1e1", "1.0", "1.", ".1", "1,", "1a", "a1", "\u0667", "\u22121", "nan", "inf", "read", "done",
	}
}

// tooGreat are numbers that no A and no B can be.
func tooGreat() []string {
	return []string{
		"65536", "65537", "65543", "65600", "66535", "75535", "99999", "100000", "131071", "131072", "655350", "4294967295", "4294967296", "4294967301", "4294967303", "9223372036854775807", "9223372036854775808",
		"18446744073709551615", "18446744073709551616", "18446744073709551623", strings.Repeat("9", 1000), "1" + strings.Repeat("0", 1000), "-65535",
	}
}

// TestParseWrongNumbers is P4.3: each number of each operation replaced by what is none, or is too great.
func TestParseWrongNumbers(t *testing.T) {
	for f, l := range listed {
		words := strings.Split(wordsOf(wide(f)), " ")
		for n := range words {
			if n == 1 {
				continue
			}
			for _, w := range slices.Concat(notNumbers(), tooGreat()) {
				refusesWords(t, replaced(words, n, w)...)
			}
			if n == 0 || n == 2 && l.need("k") {
				for v := 8; v <= 1030; v++ {
					refusesWords(t, replaced(words, n, strconv.Itoa(v))...)
				}
			}
		}
	}
}

// TestParseWrongNames is P4.3: names that are not quite one, and those of operations that need other words.
func TestParseWrongNames(t *testing.T) {
	names := []string{"", " ", "0", "1", "config", "append", "begin", "none", "READ", "rea", "reads", "ead", "rread"}
	for _, l := range listed {
		names = append(names, strings.ToUpper(l.name), strings.ToUpper(l.name[:1])+l.name[1:], l.name[:len(l.name)-1]+strings.ToUpper(l.name[len(l.name)-1:]), l.name+" ", " "+l.name, l.name+"\n", l.name+"\x00", l.name[1:], l.name[:len(l.name)-1], l.name+l.name, l.name+" 1")
	}
	for f := range listed {
		words := strings.Split(wordsOf(wide(f)), " ")
		for _, name := range names {
			refusesWords(t, replaced(words, 1, name)...)
		}
		for _, l := range listed {
			parsesRight(t, replaced(words, 1, l.name))
		}
	}
}

// TestParseChanged is P4.3 and P4.4: a list with a word that has another byte, one too much or too few is parsed only if it is the words of an operation, and then as that one.
func TestParseChanged(t *testing.T) {
	for f := range listed {
		for _, x := range []api.Op{wide(f), {F: f}} {
			l := strings.Split(wordsOf(x), " ")
			for n, w := range l {
				for i := range len(w) + 1 {
					parsesRight(t, replaced(l, n, w[:i]))
					parsesRight(t, replaced(l, n, w[i:]))
					for c := range 256 {
						parsesRight(t, replaced(l, n, w[:i]+string([]byte{byte(c)})+w[i:]))
						if i < len(w) {
							parsesRight(t, replaced(l, n, w[:i]+string([]byte{byte(c)})+w[i+1:]))
						}
					}
				}
			}
		}
	}
}

// TestWordsDiffer is P4.4: no two operations have the same words.
func TestWordsDiffer(t *testing.T) {
	valid, _ := split()
	seen := map[string]api.Op{}
	for _, x := range valid {
		s := strings.Join(op.Words(x), " ")
		if other, there := seen[s]; there {
			t.Errorf("%v and %v: %q", other, x, s)
		}
		seen[s] = x
	}
}

// TestWordsOwn is P4.5: what is handed in stays as it was and is not kept, and what is returned is new each time.
func TestWordsOwn(t *testing.T) {
	x := api.Op{F: api.Swap, Obj: 1, Key: 2, A: 3, B: 4}
	want := []string{"1", "swap", "2", "3", "4"}
	l := op.Words(x)
	if !slices.Equal(l, want) {
		t.Fatalf("Words: %q", l)
	}
	clear(l)
	_ = append(l[:1], "a", "b", "c")
	if again := op.Words(x); !slices.Equal(again, want) {
		t.Errorf("Words once more: %q", again)
	}

	given := slices.Concat(want, []string{"behind"})
	parses(t, given[:5], x, api.OK)
	refusesWords(t, given...)
	refusesWords(t, given[:4]...)
	if !slices.Equal(given, slices.Concat(want, []string{"behind"})) {
		t.Errorf("Parse changed its argument: %q", given)
	}
	clear(given)
	parses(t, want, x, api.OK)
	if again := op.Words(x); !slices.Equal(again, want) {
		t.Errorf("Words after Parse: %q", again)
	}
}

// FuzzParse is P4.3, P4.4 and P4.5 of all words.
func FuzzParse(f *testing.F) {
	for k := range listed {
		f.Add(wordsOf(wide(k)))
	}
	f.Add("")
	f.Add("0 get 07")
	f.Fuzz(func(t *testing.T, s string) { parsesRight(t, strings.Split(s, " ")) })
}
