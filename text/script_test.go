package text_test

import (
	"fmt"
	"slices"
	"strings"
	"testing"

	"umpire/api"
	"umpire/event"
	"umpire/text"
)

// reads tells whether Read of s is that.
func reads(t *testing.T, s string, want []api.Event, line int, wantErr api.Errno) {
	t.Helper()
	l, n, e := text.Read(s)
	if !slices.EqualFunc(l, want, event.Same) || n != line || e != wantErr {
		t.Fatalf("Read of %.300q: %.300s, %d, %d, and not %.300s, %d, %d", s, fmt.Sprint(l), n, e, fmt.Sprint(want), line, wantErr)
	}
}

// writes tells whether Write of l is that.
func writes(t *testing.T, l []api.Event, want string, wantErr api.Errno) {
	t.Helper()
	if s, e := text.Write(l); s != want || e != wantErr {
		t.Fatalf("Write of %.300s: %.300q, %d, and not %.300q, %d", fmt.Sprint(l), s, e, want, wantErr)
	}
}

// scriptOf is the script of valid events, by the definition.
func scriptOf(l []api.Event) string {
	s := ""
	for _, x := range l {
		s += lineOf(x) + "\n"
	}
	return s
}

// scripts are lists of valid events, of different lengths.
func scripts() [][]api.Event {
	l := [][]api.Event{nil, {}, few(), slices.Repeat(few()[7:8], 1000)}
	for n := range few() {
		l = append(l, few()[:n], few()[n:n+1])
	}
	all := valid()
	for n := 0; n < len(all); n += 97 {
		l = append(l, all[n:min(n+97, len(all))])
	}
	return l
}

// TestScripts is P6.2 and P6.3: what is written is read back, with and without its last byte 10.
func TestScripts(t *testing.T) {
	for _, l := range scripts() {
		s := scriptOf(l)
		writes(t, l, s, api.OK)
		reads(t, s, l, len(l), api.OK)
		reads(t, strings.TrimSuffix(s, "\n"), l, len(l), api.OK)
	}
}

// TestWriteInvalid is P6.2: an event that is not valid, in each place.
func TestWriteInvalid(t *testing.T) {
	for _, x := range invalid() {
		writes(t, []api.Event{x}, "", api.ErrForm)
		writes(t, []api.Event{few()[0], x}, "", api.ErrForm)
	}
	for n := range len(few()) + 1 {
		writes(t, slices.Insert(few(), n, api.Event{}), "", api.ErrForm)
		writes(t, slices.Insert(few(), n, api.Event{Kind: api.Info, Client: 16}, api.Event{}), "", api.ErrForm)
	}
}

// TestReadNothing is P6.2 of scripts without a line, and of those whose lines are empty.
func TestReadNothing(t *testing.T) {
	reads(t, "", nil, 0, api.OK)
	for _, s := range []string{"\n", "\n\n", "\n\n\n", "\ninfo 0 1", "\ninfo 0 1\n", " ", " \n", "\r\n", "x", "x\n", "x\ny\n", "\x00", "\xff\n"} {
		reads(t, s, nil, 1, api.ErrForm)
	}
}

// TestReadEnds is P6.2: a line is ended by a byte 10 alone, and the last one need not be.
func TestReadEnds(t *testing.T) {
	one := []api.Event{{Kind: api.Info, ID: 1}}
	two := []api.Event{{Kind: api.Info, ID: 1}, {Kind: api.Abort, Client: 2, ID: 3}}
	reads(t, "info 0 1", one, 1, api.OK)
	reads(t, "info 0 1\n", one, 1, api.OK)
	reads(t, "info 0 1\nabort 2 3", two, 2, api.OK)
	reads(t, "info 0 1\nabort 2 3\n", two, 2, api.OK)
	reads(t, "info 0 1\n\n", nil, 2, api.ErrForm)
	reads(t, "info 0 1\n ", nil, 2, api.ErrForm)
	reads(t, "info 0 1\n\n\n", nil, 2, api.ErrForm)
	reads(t, "info 0 1\n\nabort 2 3\n", nil, 2, api.ErrForm)
	reads(t, "info 0 1\nabort 2 3\n\n", nil, 3, api.ErrForm)
	for _, end := range []string{"\r\n", " \n", "\r", "\x00", "\x00\n", "\v", "\f", "\u0085", "\u2028", ";", "; ", "\\n"} {
		reads(t, "info 0 1"+end+"abort 2 3\n", nil, 1, api.ErrForm)
		reads(t, "info 0 1\nabort 2 3"+end, nil, 2, api.ErrForm)
	}
}

// TestReadWrong is P6.2: a line that is wrong in each place, alone or followed by others that are; the first one counts.
func TestReadWrong(t *testing.T) {
	for _, wrong := range []string{"", " ", "x", "info 16 1", "info 3", "Info 3 1", "info 3 0258", "info 3 1 ", "commit 1 9 4,", "config map 0 1 1", "begin 1 9", "\r"} {
		for n := range len(few()) + 1 {
			before, after := scriptOf(few()[:n]), scriptOf(few()[n:])
			reads(t, before+wrong+"\n"+after, nil, n+1, api.ErrForm)
			reads(t, before+wrong+"\n"+after+wrong+"\n", nil, n+1, api.ErrForm)
			reads(t, before+wrong+"\n"+after+"x", nil, n+1, api.ErrForm)
			if wrong != "" {
				reads(t, before+wrong, nil, n+1, api.ErrForm)
			}
		}
	}
	for _, n := range []int{1000, 5000} {
		reads(t, strings.Repeat("info 3 258\n", n)+"x", nil, n+1, api.ErrForm)
		reads(t, strings.Repeat("info 3 258\n", n)+"\n", nil, n+1, api.ErrForm)
	}
}

// readRight is what Read returns, by the definition.
func readRight(s string) (l []api.Event, line int, e api.Errno) {
	all := strings.Split(s, "\n")
	if n := len(all) - 1; all[n] == "" {
		all = all[:n]
	}
	for i, s := range all {
		x, e := parsed(s)
		if e != api.OK {
			return nil, i + 1, api.ErrForm
		}
		l = append(l, x)
	}
	return l, len(all), api.OK
}

// readsRight tells whether Read of s is right, and what is read and written again is s, with a byte 10 at its end.
func readsRight(t *testing.T, s string) {
	t.Helper()
	l, line, e := readRight(s)
	reads(t, s, l, line, e)
	if e != api.OK {
		return
	}
	if s != "" {
		s = strings.TrimSuffix(s, "\n") + "\n"
	}
	writes(t, l, s, api.OK)
}

// TestReadChanged is P6.2 and P6.3: scripts with a byte that is another one, too much or missing.
func TestReadChanged(t *testing.T) {
	s := scriptOf(few())
	for i := range len(s) + 1 {
		readsRight(t, s[:i])
		readsRight(t, s[i:])
		for _, c := range []string{"", "\n", "\n\n", " ", "0", "1", "x", "-", ",", "\r", "\x00", "\xff"} {
			readsRight(t, s[:i]+c+s[i:])
			if i < len(s) {
				readsRight(t, s[:i]+c+s[i+1:])
			}
		}
	}
}

// TestScriptsOwn is P6.4: what is handed in stays as it was and is not kept, and what is handed back is new memory.
func TestScriptsOwn(t *testing.T) {
	s := scriptOf(few())
	first, _, _ := text.Read(s)
	second, _, _ := text.Read(s)
	for _, x := range first {
		for _, l := range x.Reads {
			clear(l[:cap(l)])
		}
		clear(x.Reads[:cap(x.Reads)])
		clear(x.Txn[:cap(x.Txn)])
	}
	clear(first[:cap(first)])
	text.Read(strings.Repeat("abort 9 9\n", 100))
	text.Read("x")
	if !slices.EqualFunc(second, few(), event.Same) {
		t.Errorf("later calls have changed what was read: %v", second)
	}
	reads(t, s, few(), len(few()), api.OK)

	given := few()
	head := given[:3]
	writes(t, head, scriptOf(few()[:3]), api.OK)
	if !slices.EqualFunc(given, few(), event.Same) {
		t.Errorf("Write changed its argument: %v", given)
	}
	written, _ := text.Write(given)
	clear(given)
	text.Write(few()[5:])
	if written != s {
		t.Errorf("the script has changed with the events: %q", written)
	}
}

// FuzzRead is P6.2, P6.3 and P6.4 of all strings.
func FuzzRead(f *testing.F) {
	f.Add("")
	f.Add("\n")
	f.Add("info 0 1\n\nx\n")
	f.Add(scriptOf(few()))
	f.Fuzz(readsRight)
}
