package bits

import (
	"math/bits"

	"umpire/api"
)

const (
	group = 8                  // how many numbers a byte of a key tells of
	share = width / group      // how many bytes of a key tell what one word does
	long  = (most + 1) / group // how many bytes a key may have
)

// Key returns the key of s. P15.3.
func (s Set) Key() string {
	key := make([]byte, s.groups())
	for i := range key {
		key[i] = byte(s.words[i/share] >> (i % share * group))
	}
	return string(key)
}

// groups counts the groups up to the last one of which s contains any number.
func (s Set) groups() int {
	last := len(s.words) - 1
	if last < 0 {
		return 0
	}
	return last*share + (bits.Len64(s.words[last])+group-1)/group
}

// FromKey returns the set whose key is key. P15.3.
func FromKey(key string) (Set, api.Errno) {
	if len(key) > long || key != "" && key[len(key)-1] == 0 {
		return Set{}, api.ErrForm
	}
	words := make([]uint64, (len(key)+share-1)/share)
	for i := range len(key) {
		words[i/share] |= uint64(key[i]) << (i % share * group)
	}
	return made(words), api.OK
}

// Down returns the numbers of s that are at least by, each less by. P15.3.
func (s Set) Down(by int) Set {
	by = max(by, 0)
	if by/width >= len(s.words) {
		return Set{}
	}
	from := s.words[by/width:]
	words := make([]uint64, len(from))
	for i := range words {
		words[i] = from[i] >> (by % width)
		if i+1 < len(from) {
			// Where by is a multiple of width, this is a shift by all of it, which leaves nothing.
			words[i] |= from[i+1] << (width - by%width)
		}
	}
	return made(words)
}
