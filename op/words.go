package op

import (
	"slices"
	"strconv"

	"umpire/api"
)

// Words returns the words of x; none, if it is not valid. P4.3.
func Words(x api.Op) []string {
	if !valid(x) {
		return nil
	}
	k := kinds[x.F]
	l := []string{strconv.Itoa(int(x.Obj)), k.name}
	if k.key {
		l = append(l, strconv.Itoa(int(x.Key)))
	}
	if k.a {
		l = append(l, strconv.Itoa(int(x.A)))
	}
	if k.b {
		l = append(l, strconv.Itoa(int(x.B)))
	}
	return l
}

// Parse returns the operation whose words l are. P4.3.
func Parse(l []string) (api.Op, api.Errno) {
	x := guess(l)
	// An operation has one list of words, so this finds all that can be wrong: words that are missing or too many, leading zeros, a sign, or a number that is too great.
	if !valid(x) || !slices.Equal(Words(x), l) {
		return api.Op{}, api.ErrForm
	}
	return x, api.OK
}

// guess returns the only operation whose words l can be; any one, if there is none.
func guess(l []string) (x api.Op) {
	x.Obj, l = spelled[uint8](l)
	x.F, l = named(l)
	k, _ := find(x.F)
	if k.key {
		x.Key, l = spelled[uint8](l)
	}
	if k.a {
		x.A, l = spelled[uint16](l)
	}
	if k.b {
		x.B, _ = spelled[uint16](l)
	}
	return x
}

// spelled returns the only number that the first word can be, any one if there is none, and the words behind it.
func spelled[N uint8 | uint16](l []string) (n N, rest []string) {
	word, rest := first(l)
	digits, _ := strconv.ParseUint(word, 10, 16)
	return N(digits), rest
}

// named returns the F of the operations whose name the first word is, 0 if there are none, and the words behind it.
func named(l []string) (f uint8, rest []string) {
	word, rest := first(l)
	for n, k := range kinds {
		if k.name == word {
			return uint8(n), rest
		}
	}
	return 0, rest
}

// first returns the first word, an empty one if there is none, and the words behind it.
func first(l []string) (word string, rest []string) {
	if len(l) == 0 {
		return "", nil
	}
	return l[0], l[1:]
}
