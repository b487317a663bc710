package entries_test

import (
	"testing"

	"umpire/entries"
	"umpire/table"
)

// read returns the rows that the bytes tell of, three each: status, From, To; and whether they are searchable.
func read(s string) (rows []table.Row, good bool) {
	good = true
	for ; len(s) >= 3; s = s[3:] {
		r := table.Row{Status: s[0] % 4, From: int(int8(s[1])), To: int(int8(s[2]))}
		rows = append(rows, r)
		good = good && (r.Status != table.Completed || r.To > r.From)
	}
	return rows, good
}

// FuzzEntries is P16.1 to P16.6 of all arguments: no call panics, and each answers as the second working-out does.
func FuzzEntries(f *testing.F) {
	for _, rows := range []string{"", "\x01\x00\x03\x00\x01\x00\x01\x04\x06\x02\x05\x00", "\x01\x03\x03", "\x01\x00\x05\x01\x01\x05\x00\x06\x00", "\x01\x80\x7f\x03\x05\x00\x01\x05\x06\x01\x06\x07", "\x01\x05\x04\x01\x00\x01"} {
		for _, calls := range []string{"", "\x01\x02\x03\x04", "\x01\x01\xff\x00\x80", "\x03\x02\xff\xff\xff\x01\xff\x02", "\x02\x04\x01\xfe\x03\x01"} {
			f.Add(rows, calls)
		}
	}
	f.Fuzz(func(t *testing.T, text, calls string) {
		rows, good := read(text[:min(len(text), 60)])
		x := entries.New(rows)
		if (x != nil) != good {
			t.Fatalf("New of %v: %t", rows, x != nil)
		}
		if !good {
			return
		}
		l := &lifting{rows: rows}
		agrees(t, x, l)
		for _, c := range []byte(calls[:min(len(calls), 60)]) {
			if c >= 128 {
				unliftsBoth(t, x, l)
			} else {
				liftsBoth(t, x, l, int(c)-1)
			}
			agrees(t, x, l)
		}
	})
}
