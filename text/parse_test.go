package text_test

import (
	"regexp"
	"slices"
	"strconv"
	"strings"
	"testing"

	"umpire/api"
	"umpire/event"
	"umpire/op"
	"umpire/result"
	"umpire/text"
)

// parses tells whether Parse of s is that, and Line of what is parsed is s.
func parses(t *testing.T, s string, want api.Event, wantErr api.Errno) {
	t.Helper()
	x, e := text.Parse(s)
	if !event.Same(x, want) || e != wantErr {
		t.Fatalf("Parse of %.300q: %v, %d, and not %v, %d", s, x, e, want, wantErr)
	}
	if again, e := text.Line(x); wantErr == api.OK && (again != s || e != api.OK) {
		t.Fatalf("Line of what %.300q is: %q, %d", s, again, e)
	}
}

// refuses tells whether Parse of each is ErrForm, and no event.
func refuses(t *testing.T, l ...string) {
	t.Helper()
	for _, s := range l {
		parses(t, s, api.Event{}, api.ErrForm)
	}
}

// forms are what the lines of each kind look like. N is a number.
func forms() map[uint8]*regexp.Regexp {
	m := map[uint8]*regexp.Regexp{}
	for k, s := range map[uint8]string{
		1: `config (register|queue|map|lock|append) (N) (N) (N)( partition)?( cut)?( memo)?`,
		2: `invoke (N) (N) (.*)`,
		3: `return (N) (N) (.*)`,
		4: `info (N) (N)`,
		5: `begin (N) (N)((?: read N| append N N)+)`,
		6: `commit (N) (N)((?: -| N(?:,N)*)*)`,
		7: `abort (N) (N)`,
	} {
		m[k] = regexp.MustCompile(`\A(?s:` + strings.ReplaceAll(s, "N", "(?:0|[1-9][0-9]{0,9})") + `)\z`)
	}
	return m
}

// known are the forms, which are made only once.
var known = forms()

// parsed is what Parse returns, by the definition of an event's line.
func parsed(s string) (api.Event, api.Errno) {
	for k, form := range known {
		if m := form.FindStringSubmatch(s); m != nil {
			if x, ok := built(k, m); ok && event.Check(x) == api.OK {
				return x, api.OK
			}
		}
	}
	return api.Event{}, api.ErrForm
}

// built is the event of that kind, with these words, and whether there can be one.
func built(k uint8, m []string) (x api.Event, ok bool) {
	ok = true
	number := func(s string, most int) int {
		n, _ := strconv.Atoi(s)
		ok = ok && n <= most
		return n
	}
	x.Kind = k
	if k == 1 {
		model := slices.Index([]string{"register", "queue", "map", "lock", "append"}, m[1])
		x.Config = api.Config{Model: uint8(model), MaxOpen: number(m[2], 32), MaxStates: number(m[3], 4096), MaxSteps: number(m[4], 1<<20), Partition: m[5] != "", Cut: m[6] != "", Memo: m[7] != ""}
		return x, ok
	}
	x.Client, x.ID = uint8(number(m[1], 15)), uint16(number(m[2], 65535))
	e := api.OK
	switch k {
	case 2:
		x.Op, e = op.Parse(strings.Split(m[3], " "))
	case 3:
		x.Res, e = result.Parse(m[3])
	case 5:
		l := strings.Split(m[3], " ")
		for i, w := range l {
			switch w {
			case "read":
				x.Txn = append(x.Txn, api.Micro{Read: true, Key: uint8(number(l[i+1], 7))})
			case "append":
				x.Txn = append(x.Txn, api.Micro{Key: uint8(number(l[i+1], 7)), V: uint16(number(l[i+2], 65535))})
			}
		}
	case 6:
		for _, w := range strings.Split(m[3], " ")[1:] {
			var list []uint16
			for _, n := range strings.Split(strings.Trim(w, "-"), ",") {
				if n != "" {
					list = append(list, uint16(number(n, 65535)))
				}
			}
			x.Reads = append(x.Reads, list)
		}
	}
	return x, ok && e == api.OK
}

// parsesRight tells whether Parse of s is right, and whether it is an event.
func parsesRight(t *testing.T, s string) bool {
	t.Helper()
	x, e := parsed(s)
	parses(t, s, x, e)
	return e == api.OK
}

// samples are lines of each kind, with each word that there is.
func samples() []string {
	var l []string
	for s := range examples() {
		l = append(l, s)
	}
	for _, x := range few() {
		l = append(l, lineOf(x))
	}
	slices.Sort(l)
	return l
}

// notNumbers are words that are not the digits of any number.
func notNumbers() []string {
	return []string{
		"", " ", "a", "x", "-", "+", ",", "00", "01", "07", "007", "010", "000000000000000000007", "+1", "-1", "-0", "+0", "--1", "++1", "- 1", "1 ", " 1", "1\n", "\t1", "1\x00", "\x001", "1\r", "0x1", "0b1", "0o7", "1_0", "1e1", "1.0", "1.", ".1", "1,", ",1", "1a", "a1", "\u0661", "\u22121", "\uff11", "\xff", "nan", "inf", "read", "done",
	}
}

// tooGreat are numbers that no field of any event can be.
func tooGreat() []string {
	return []string{
		"1048577", "1048578", "2097152", "16777217", "4294967295", "4294967296", "4294967297", "4294967303", "9223372036854775807", "9223372036854775808",
		"18446744073709551615", "18446744073709551616", "18446744073709551617", "18446744073709551623", strings.Repeat("9", 1000), "1" + strings.Repeat("0", 1000),
	}
}

// TestParseNumbers is P6.1: each number of each kind, at its bounds, and what is no number in its place.
func TestParseNumbers(t *testing.T) {
	for _, c := range []struct {
		form        string
		least, most int
	}{
		{"config map # 1 1", 1, 32},
		{"config map 1 # 1", 1, 4096},
		{"config map 1 1 #", 1, 1 << 20},
		{"config map # 1 1 cut", 1, 32},
		{"config map 1 # 1 partition", 1, 4096},
		{"config map 1 1 # memo", 1, 1 << 20},
		{"invoke # 1 0 read", 0, 15},
		{"invoke 1 # 0 read", 0, 65535},
		{"invoke 1 1 # read", 0, 7},
		{"invoke 1 1 0 get #", 0, 7},
		{"invoke 1 1 0 swap 1 # 2", 0, 65535},
		{"return # 1 done", 0, 15},
		{"return 1 # value 1", 0, 65535},
		{"return 1 1 value #", 0, 65535},
		{"info # 1", 0, 15},
		{"info 1 #", 0, 65535},
		{"begin # 1 read 0", 0, 15},
		{"begin 1 # read 0", 0, 65535},
		{"begin 1 1 read #", 0, 7},
		{"begin 1 1 append # 0", 0, 7},
		{"begin 1 1 append 0 #", 0, 65535},
		{"begin 1 1 read 1 read # append 1 1", 0, 7},
		{"begin 1 1 append 1 1 append 1 # read 1", 0, 65535},
		{"commit # 1", 0, 15},
		{"commit 1 #", 0, 65535},
		{"commit 1 # - 1", 0, 65535},
		{"commit 1 1 #", 0, 65535},
		{"commit 1 1 1,# 2", 0, 65535},
		{"commit 1 1 - #,1", 0, 65535},
		{"abort # 1", 0, 15},
		{"abort 1 #", 0, 65535},
	} {
		with := func(w string) string { return strings.Replace(c.form, "#", w, 1) }
		for n := c.least - 1; n <= c.most+1100; n += 1 + n/1100*(n/50) { // each one up to 1100, then fewer
			if n < c.least || n > c.most {
				refuses(t, with(strconv.Itoa(n)))
			} else if !parsesRight(t, with(strconv.Itoa(n))) {
				t.Errorf("%q is none", with(strconv.Itoa(n)))
			}
		}
		for _, n := range []int{c.most - 1, c.most} {
			if !parsesRight(t, with(strconv.Itoa(n))) {
				t.Errorf("%q is none", with(strconv.Itoa(n)))
			}
			refuses(t, with("0"+strconv.Itoa(n)), with("+"+strconv.Itoa(n)), with("-"+strconv.Itoa(n)))
		}
		refuses(t, with(strconv.Itoa(c.most+1)), with(strconv.Itoa(-c.most)))
		for _, w := range append(notNumbers(), tooGreat()...) {
			parsesRight(t, with(w))
			if w != "-" && w != "- 1" {
				refuses(t, with(w))
			}
		}
	}
	if _, e := text.Parse("commit 1 1 -"); e != api.OK {
		t.Errorf("a minus sign in place of a list: %d", e)
	}
}

// TestParseEachNumber is P6.1 and P6.3 of all numbers that an ID and a V can be.
func TestParseEachNumber(t *testing.T) {
	for n := range 1 << 16 {
		s := strconv.Itoa(n)
		parses(t, "begin "+strconv.Itoa(n%16)+" "+s+" append "+strconv.Itoa(n%8)+" "+s, api.Event{Kind: api.Begin, Client: uint8(n % 16), ID: uint16(n), Txn: []api.Micro{{Key: uint8(n % 8), V: uint16(n)}}}, api.OK)
		parses(t, "commit 0 1 "+s+",7,"+s, api.Event{Kind: api.Commit, ID: 1, Reads: [][]uint16{{uint16(n), 7, uint16(n)}}}, api.OK)
	}
}

// TestParseConfigs is P6.1: each model with each of the words behind the numbers: there, missing, out of order, twice.
func TestParseConfigs(t *testing.T) {
	words := []string{"", " partition", " cut", " memo", " append", " 1", " Partition", " -"}
	right := []string{"", " partition", " cut", " memo", " partition cut", " partition memo", " cut memo", " partition cut memo"}
	accepted := 0
	for _, model := range []string{"register", "queue", "map", "lock", "append", "", "set", "Map", "maps", "transactions", "0", "read"} {
		for _, a := range words {
			for _, b := range words {
				for _, c := range words {
					for _, d := range words {
						tail := a + b + c + d
						if parsesRight(t, "config "+model+" 8 10 100"+tail) {
							accepted++
							if !slices.Contains(right, tail) {
								t.Errorf("%q", tail)
							}
						}
						parsesRight(t, "config "+model+" 8 10"+tail)
						parsesRight(t, "config "+model+tail+" 8 10 100")
					}
				}
			}
		}
	}
	if accepted == 0 {
		t.Error("none of them is a config")
	}
	for _, tail := range right {
		if !parsesRight(t, "config lock 8 10 100"+tail) {
			t.Errorf("%q is none", tail)
		}
	}
	refuses(t, "config lock 8 10 100 cut partition", "config lock 8 10 100 memo partition", "config lock 8 10 100 memo cut", "config lock 8 10 100 cut cut", "config lock 8 10 100 partition cut memo partition", "config lock 8 10 100 partition partition")
}

// TestParseBegins is P6.1: from no micro to more than 8, and micros with a word too few or too many.
func TestParseBegins(t *testing.T) {
	for n := range 300 {
		read, add := strings.Repeat(" read 1", n), strings.Repeat(" append 1 2", n)
		if n < 1 || n > 8 {
			refuses(t, "begin 1 9"+read, "begin 1 9"+add)
			continue
		}
		parses(t, "begin 1 9"+read, api.Event{Kind: api.Begin, Client: 1, ID: 9, Txn: slices.Repeat([]api.Micro{{Read: true, Key: 1}}, n)}, api.OK)
		parses(t, "begin 1 9"+add, api.Event{Kind: api.Begin, Client: 1, ID: 9, Txn: slices.Repeat([]api.Micro{{Key: 1, V: 2}}, n)}, api.OK)
		refuses(t, "begin 1 9"+read+" read", "begin 1 9"+read+" append", "begin 1 9"+read+" append 1", "begin 1 9"+add+" append", "begin 1 9"+add+" append 1")
		refuses(t, "begin 1 9"+read+" 1", "begin 1 9"+add+" 1", "begin 1 9 1"+add, "begin 1 9"+read+" write 1 2", "begin 1 9"+read+" -")
	}
	refuses(t, "begin 1 9 read 1 2", "begin 1 9 append 1 2 3", "begin 1 9 append 1 read 1", "begin 1 9 read read 1", "begin 1 9 read", "begin 1 9 append", "begin 1 9 append 1", "begin 1 9 1 read", "begin 1 9 get 1", "begin 1 read 1", "begin 1 9 read 1,append 1 2", "begin 1 9 append 1,2")
}

// TestParseCommits is P6.1: from no list to more than 8, of from no number to more than 32, and commas where none may be.
func TestParseCommits(t *testing.T) {
	for n := range 300 {
		lists, commas := strings.Repeat(" 4,5", n), strings.Repeat(",7", n)
		empty := strings.Repeat(" -", n)
		if n > 8 {
			refuses(t, "commit 1 9"+lists, "commit 1 9"+empty)
		} else {
			parses(t, "commit 1 9"+lists, api.Event{Kind: api.Commit, Client: 1, ID: 9, Reads: slices.Repeat([][]uint16{{4, 5}}, n)}, api.OK)
			parses(t, "commit 1 9"+empty, api.Event{Kind: api.Commit, Client: 1, ID: 9, Reads: make([][]uint16, n)}, api.OK)
		}
		if n > 31 {
			refuses(t, "commit 1 9 7"+commas, "commit 1 9 - 7"+commas+" 8")
		} else {
			parses(t, "commit 1 9 - 7"+commas, api.Event{Kind: api.Commit, Client: 1, ID: 9, Reads: [][]uint16{nil, slices.Repeat([]uint16{7}, n+1)}}, api.OK)
			parses(t, "commit 1 9 7"+commas+" 8", api.Event{Kind: api.Commit, Client: 1, ID: 9, Reads: [][]uint16{slices.Repeat([]uint16{7}, n+1), {8}}}, api.OK)
		}
		refuses(t, "commit 1 9 7"+commas+",", "commit 1 9 ,7"+commas, "commit 1 9 "+strings.Repeat(",", n+1))
	}
	for _, s := range []string{",", "4,", ",4", "4,,5", ",4,5", "4,5,", ",,4,5", "4,5,,", "-,", ",-", "-,4", "4,-", "--", "4-", "-4", "4,5-", "4;5", "4, 5", "4 ,5", "4,05", "4,+5", "[4]", "[]", "none", "4,5 ", " 4,5"} {
		refuses(t, "commit 1 9 "+s, "commit 1 9 "+s+" -", "commit 1 9 6 "+s, "commit 1 9 - "+s+" 6")
	}
}

// TestParseWords is P6.1: lines of each kind with a word too few, one too many, or one in place of another.
func TestParseWords(t *testing.T) {
	others := []string{"", "0", "1", "9", "16", "-", "1,2", "read", "append", "config", "info", "abort", "commit", "done", "value", "partition", "cut", "memo", "map", "x"}
	for _, s := range samples() {
		l := strings.Split(s, " ")
		for i := range len(l) + 1 {
			if i < len(l) {
				parsesRight(t, strings.Join(l[:i], " "))
				parsesRight(t, strings.Join(l[i:], " "))
				parsesRight(t, strings.Join(slices.Concat(l[:i], l[i+1:]), " "))
			}
			for _, w := range others {
				parsesRight(t, strings.Join(slices.Insert(slices.Clone(l), i, w), " "))
				if i < len(l) {
					parsesRight(t, strings.Join(slices.Concat(l[:i], []string{w}, l[i+1:]), " "))
				}
			}
		}
		parsesRight(t, s+" "+s)
	}
	refuses(t, "config", "config map", "config map 8", "config map 8 1", "config map 8 1 1 1", "invoke", "invoke 3", "invoke 3 1", "invoke 3 1 0", "invoke 3 1 0 write", "invoke 3 1 0 write 1 1", "invoke 3 1 write 1",
		"return", "return 3", "return 3 1", "return 3 1 value", "return 3 1 value 7 7", "return 3 1 done 0", "return 3 1 yes no", "info", "info 3", "info 3 1 1", "abort", "abort 3", "abort 3 1 1", "abort 3 1 -", "begin", "begin 1", "begin 1 9", "commit", "commit 1", "commit -", "commit 1 -")
}

// TestParseSpaces is P6.1: two spaces, one at the start or at the end, and other bytes in place of one.
func TestParseSpaces(t *testing.T) {
	for _, s := range samples() {
		refuses(t, " "+s, s+" ", "  "+s, s+"  ", " "+s+" ", "\n"+s, s+"\n", s+"\r", s+"\r\n", s+"\x00", s+"\t", "\xef\xbb\xbf"+s, s+"\n"+s)
		for i := range s {
			if s[i] != ' ' {
				continue
			}
			for _, w := range []string{"  ", "   ", "\t", "\n", "\r", "\v", "\x00", "_", ";", "\u00a0", "\u2003", " \t", "\n ", " \n"} {
				refuses(t, s[:i]+w+s[i+1:])
			}
			parsesRight(t, s[:i]+s[i+1:])
			parsesRight(t, s[:i]+","+s[i+1:])
		}
	}
	refuses(t, "info 3  1", "info  3 1", " info 3 1", "info 3 1 ", "commit 1 9 ", "commit 1 9  -", "begin 1 9 read  2", "return 3 258 value  7", "return 3 258 done ", "invoke 3 258 1  write 5", "config map 8 1 1 ", "config map 8 1 1  cut")
}

// TestParseCapitals is P6.1: each letter as a capital one.
func TestParseCapitals(t *testing.T) {
	for _, s := range samples() {
		refuses(t, strings.ToUpper(s))
		for i := range s {
			if up := strings.ToUpper(s[i : i+1]); up != s[i:i+1] {
				refuses(t, s[:i]+up+s[i+1:])
			}
		}
	}
}

// TestParseNothing is P6.1 of the empty line, and of what has no word.
func TestParseNothing(t *testing.T) {
	refuses(t, "", " ", "  ", "\n", "\x00", "\t", "-", ",", "0", "1", "x", "info", "\xff", " 0 0", " 0 0 0", "0 0 0", strings.Repeat(" ", 1000), strings.Repeat("info ", 1000), strings.Repeat("commit 1 9 ", 10000))
}

// TestParseLong is P6.1 of lines that are far longer than any event's.
func TestParseLong(t *testing.T) {
	for _, n := range []int{9, 25, 26, 27, 28, 29, 33, 64, 1 << 10, 1 << 20} {
		for _, head := range []string{"", "config map 8 10 100", "invoke 1 9 0 read", "return 1 9 done", "info 1 9", "begin 1 9 read 1", "commit 1 9", "commit 1 9 1", "abort 1 9"} {
			for _, more := range []string{" ", " 1", " -", " read 1", " append 1 1", " partition", "\x00"} {
				refuses(t, head+strings.Repeat(more, n))
			}
		}
		refuses(t, "commit 1 9 "+strings.Repeat("1,", n), "commit 1 9 "+strings.Repeat(",", n)+" 1", "info 1 "+strings.Repeat("1", n), "info "+strings.Repeat("0", n)+" 1")
	}
	longest := "begin 15 65535" + strings.Repeat(" append 7 65535", 8)
	parses(t, longest, api.Event{Kind: api.Begin, Client: 15, ID: 65535, Txn: slices.Repeat([]api.Micro{{Key: 7, V: 65535}}, 8)}, api.OK)
	refuses(t, longest+" 1", longest+" read", longest+" ", longest+" append 7 65535")
}

// TestParseNames is P6.1: names of kinds that are not quite one, and those of other kinds.
func TestParseNames(t *testing.T) {
	names := []string{"config", "invoke", "return", "info", "begin", "commit", "abort"}
	for _, s := range samples() {
		name, behind, _ := strings.Cut(s, " ")
		for _, other := range names {
			parsesRight(t, other+" "+behind)
		}
		for _, other := range []string{"", "x", "0", "1", "call", "ok", "fail", "start", "configure", "invoked", name[1:], name[:len(name)-1], name + "s", name + name, name + ":", name + "\x00", "\"" + name + "\""} {
			refuses(t, other+" "+behind)
		}
	}
}

// TestParseChanged is P6.1 and P6.3: a line with a byte that is another one, too much or missing is parsed only if it is a line, and then as that one's event.
func TestParseChanged(t *testing.T) {
	for _, s := range samples() {
		for i := range len(s) + 1 {
			for c := range 256 {
				b := string([]byte{byte(c)})
				parsesRight(t, s[:i]+b+s[i:])
				if i < len(s) {
					parsesRight(t, s[:i]+b+s[i+1:])
				}
			}
			for j := i; j <= min(len(s), i+12); j++ {
				parsesRight(t, s[:i]+s[j:])
				parsesRight(t, s[:j]+s[i:])
			}
		}
	}
}

// TestParseAnyWords is P6.1, P6.3 and P6.4 of words in any order.
func TestParseAnyWords(t *testing.T) {
	heads := []string{"config map 8 10 100", "config lock 1 1", "invoke 3 258", "return 3 258", "info 3", "begin 1 9 read 2", "begin 1 9", "commit 1 9", "commit", "abort 0"}
	words := []string{"0", "1", "7", "8", "15", "16", "65535", "65536", "-", "1,2", "read", "append", "get", "swap", "write", "value", "done", "yes", "partition", "cut", "memo", ""}
	n, accepted := uint32(1), 0
	next := func(below int) int {
		n = n*1664525 + 1013904223
		return int(n>>8) % below
	}
	for range 100000 {
		l := []string{heads[next(len(heads))]}
		for range next(6) {
			l = append(l, words[next(len(words))])
		}
		if parsesRight(t, strings.Join(l, " ")) {
			accepted++
		}
	}
	if accepted < 1000 {
		t.Errorf("only %d of them are lines", accepted)
	}
}

// TestParseOwn is P6.4: what is handed back is new memory, no two lists of which share any, and nothing is kept from call to call.
func TestParseOwn(t *testing.T) {
	for _, want := range few() {
		s := lineOf(want)
		first, _ := text.Parse(s)
		second, _ := text.Parse(s)
		for i := range first.Reads {
			l := first.Reads[i][:cap(first.Reads[i])]
			for j := range l {
				l[j] = 60000
			}
			for j, other := range first.Reads {
				if j > i && !slices.Equal(other, want.Reads[j]) {
					t.Errorf("%q: list %d has changed with list %d", s, j, i)
				}
			}
		}
		clear(first.Reads[:cap(first.Reads)])
		clear(first.Txn[:cap(first.Txn)])
		for _, other := range few() {
			text.Parse(lineOf(other))
		}
		text.Parse(s + " ")
		if !event.Same(second, want) {
			t.Errorf("%q: later calls have changed %v to %v", s, want, second)
		}
		parses(t, s, want, api.OK)
	}
}

// FuzzParse is P6.1, P6.3 and P6.4 of all strings.
func FuzzParse(f *testing.F) {
	for _, s := range samples() {
		f.Add(s)
	}
	f.Add("")
	f.Add("config map 8 1 1 memo cut")
	f.Fuzz(func(t *testing.T, s string) { parsesRight(t, s) })
}
