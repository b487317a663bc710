package result_test

import (
	"strings"
	"testing"

	"umpire/api"
	"umpire/result"
)

// parses tells whether s is parsed as want.
func parses(t *testing.T, s string, want api.Result, wantErr api.Errno) {
	t.Helper()
	if r, e := result.Parse(s); r != want || e != wantErr {
		t.Fatalf("Parse of %.80q: %v, %d, and not %v, %d", s, r, e, want, wantErr)
	}
}

// TestParse is P3.2 and P3.4: each text is parsed as its result.
func TestParse(t *testing.T) {
	for _, r := range valid() {
		s, e := result.Text(r)
		if e != api.OK {
			t.Fatalf("Text of %v: %d", r, e)
		}
		parses(t, s, r, api.OK)
	}
}

// TestParseNumbers is P3.2 at the bounds of what V can be.
func TestParseNumbers(t *testing.T) {
	for s, v := range map[string]uint16{"value 0": 0, "value 9": 9, "value 10": 10, "value 99": 99, "value 100": 100, "value 65529": 65529, "value 65530": 65530, "value 65535": 65535} {
		parses(t, s, api.Result{K: api.Value, V: v}, api.OK)
	}
	for _, s := range []string{
		"value 65536", "value 65537", "value 65540", "value 65600", "value 66535", "value 75535", "value 99999", "value 100000", "value 131071", "value 655350",
		"value 4294967295", "value 4294967296", "value 4294967303", "value 9223372036854775807", "value 9223372036854775808",
		"value 18446744073709551615", "value 18446744073709551616", "value 18446744073709551623", "value " + strings.Repeat("9", 1000),
	} {
		parses(t, s, api.Result{}, api.ErrForm)
	}
}

// TestParseWrong is P3.2 of strings that look like a text and are none.
func TestParseWrong(t *testing.T) {
	for _, s := range []string{
		"", " ", "  ", "7", " 7", "0", "value", "value ", "value  ", "value  7", "value 7 ", " value 7", "value7", "value 7 7", "value 7\n", "value\t7", "value\n7", "value\u00a07",
		"value 00", "value 07", "value 007", "value 010", "value 065535", "value 000000000000000000007",
		"value +7", "value -7", "value -0", "value +0", "value --7", "value - 7", "value -65535", "value +65535", "value \u22127",
		"value 0x7", "value 0b1", "value 0o7", "value 1_0", "value 1e1", "value 7.0", "value 7.", "value .7", "value 7,", "value a", "value f", "value 1a", "value \u0667", "value nan",
		"Value 7", "VALUE 7", "vALUE 7", "valuE 7", "DONE", "Done", "dONE", "NONE", "None", "YES", "Yes", "yeS", "NO", "No", "nO",
		"done ", " done", "done 0", "done 1", "done done", "done\n", "done\x00", "\x00done", "done value 7", "none ", "none 0", "none 7", "yes ", "yes 0", "yes no", "no ", "no 0", "no 1", "no no",
		"d", "do", "don", "donee", "n", "non", "nones", "y", "ye", "yess", "noo", "v", "valu", "valu 7", "values 7", "value7 7",
		"\x00", "\x01", "\x01\x00\x07", "\xff", "-", "open", "unknown", strings.Repeat("done", 1000), "value" + strings.Repeat(" ", 1000) + "7", "value " + strings.Repeat("0", 1000) + "7",
	} {
		parses(t, s, api.Result{}, api.ErrForm)
	}
}

// TestParseChanged is P3.2 and P3.4: a text with a byte that is another one, too much or missing is parsed only if it is a text, and then as that one's result.
func TestParseChanged(t *testing.T) {
	texts := map[string]api.Result{}
	for _, r := range valid() {
		texts[textOf(r)] = r
	}
	parsesAsText := func(s string) {
		t.Helper()
		r, there := texts[s]
		want := api.ErrForm
		if there {
			want = api.OK
		}
		parses(t, s, r, want)
	}
	var l []string
	for _, k := range kinds() {
		if k != api.Value {
			l = append(l, textOf(api.Result{K: k}))
		}
	}
	for _, v := range numbers() {
		l = append(l, textOf(api.Result{K: api.Value, V: v}))
	}
	for _, s := range l {
		for i := range len(s) + 1 {
			parsesAsText(s[:i])
			parsesAsText(s[i:])
			for c := range 256 {
				parsesAsText(s[:i] + string([]byte{byte(c)}) + s[i:])
				if i < len(s) {
					parsesAsText(s[:i] + string([]byte{byte(c)}) + s[i+1:])
				}
			}
			for j := i; j <= len(s); j++ {
				parsesAsText(s[:i] + s[j:])
				parsesAsText(s[:j] + s[i:])
			}
		}
	}
}

// TestTextsDiffer is P3.4: no two results have the same text.
func TestTextsDiffer(t *testing.T) {
	seen := map[string]api.Result{}
	for _, r := range valid() {
		s, _ := result.Text(r)
		if other, there := seen[s]; there {
			t.Errorf("%v and %v: %q", other, r, s)
		}
		seen[s] = r
	}
}
