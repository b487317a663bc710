package bits

import (
	"iter"
	"math/bits"
)

// Count returns how many numbers s contains. P15.2.
func (s Set) Count() int {
	n := 0
	for _, w := range s.words {
		n += bits.OnesCount64(w)
	}
	return n
}

// All yields the numbers of s, ascending. P15.2.
func (s Set) All() iter.Seq[int] {
	return func(yield func(int) bool) {
		for i, w := range s.words {
			for ; w != 0; w &= w - 1 {
				if !yield(i*width + bits.TrailingZeros64(w)) {
					return
				}
			}
		}
	}
}

// Least returns the least number of s, and -1 if there is none. P15.2.
func (s Set) Least() int {
	for n := range s.All() {
		return n
	}
	return -1
}

// Gap returns the least number from from on that s does not contain. P15.2.
func (s Set) Gap(from int) int {
	from = max(from, 0)
	for from/width < len(s.words) {
		free := ^s.words[from/width] >> (from % width)
		if free != 0 {
			return from + bits.TrailingZeros64(free)
		}
		from += width - from%width
	}
	return from
}
