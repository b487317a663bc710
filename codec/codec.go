// Package codec is layer 1: numbers of fixed width, bytes and lists, written and read one after the other.
package codec

import (
	"math/bits"

	"umpire/api"
)

// mostOfList is 255 because one byte tells how many elements a list has.
const mostOfList = 1<<8 - 1

// kept is what a Writer and a Reader have in common. Nothing is done after an error, so err is the first one.
type kept struct {
	bytes []byte
	err   api.Errno
}

// number is what has a fixed width.
type number interface{ uint8 | uint16 | uint32 }

// width counts the bytes of an N.
func width[N number]() int { return bits.Len32(uint32(^N(0))) / 8 }

// appended is b with n behind it, the highest byte first.
func appended[N number](b []byte, n N) []byte {
	for i := width[N]() - 1; i >= 0; i-- {
		b = append(b, byte(uint32(n)>>(8*i)))
	}
	return b
}

// joined is the number whose bytes these are; no bytes are 0, which is what a reader with an error answers.
func joined[N number](b []byte) N {
	n := uint32(0)
	for _, c := range b {
		n = n<<8 | uint32(c)
	}
	return N(n)
}
