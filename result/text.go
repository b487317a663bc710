package result

import (
	"strconv"
	"strings"

	"umpire/api"
)

// words are what the texts of the kinds begin with.
var words = [...]string{
	api.Done:  "done",
	api.Value: "value",
	api.None:  "none",
	api.Yes:   "yes",
	api.No:    "no",
}

// space is between the word of Value and the number.
const space = " "

// Text returns the text of r. P3.1.
func Text(r api.Result) (string, api.Errno) {
	if e := Check(r); e != api.OK {
		return "", e
	}
	s := words[r.K]
	if r.K == api.Value {
		s += space + strconv.Itoa(int(r.V))
	}
	return s, api.OK
}

// Parse returns the result whose text s is. P3.2.
func Parse(s string) (api.Result, api.Errno) {
	r := guess(s)
	// A result has one text, so this finds all that can be wrong: leading zeros, a sign, or what is behind a text.
	if t, e := Text(r); e != api.OK || t != s {
		return api.Result{}, api.ErrForm
	}
	return r, api.OK
}

// guess returns the only result whose text s can be; any one, if there is none.
func guess(s string) api.Result {
	word, digits, _ := strings.Cut(s, space)
	for k, w := range words {
		if w == word {
			n, _ := strconv.ParseUint(digits, 10, 16)
			return api.Result{K: uint8(k), V: uint16(n)}
		}
	}
	return api.Result{}
}
