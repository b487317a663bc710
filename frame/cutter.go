package frame

import "umpire/api"

// What Next tells.
const (
	More  = 0
	Frame = 1
	Bad   = 2
)

// Cutter extracts frames from what is fed to it.
type Cutter struct {
	pieces
	fed       int
	at        int // where the next frame begins, or the bad one
	made, bad bool
}

// New returns a cutter to which nothing was fed. P2.2.
func New() *Cutter { return &Cutter{made: true} }

// Feed appends s to what was fed. Behind a bad frame bytes are only counted, since nothing is extracted there. P2.2.
func (c *Cutter) Feed(s string) {
	if c == nil || !c.made {
		return
	}
	c.fed += len(s)
	if !c.bad {
		c.add(s)
	}
}

// Next returns the payload of the next frame, where the frame begins, and Frame; or no payload, and why there is none. P2.2.
func (c *Cutter) Next() (payload string, at int, state int) {
	if c == nil {
		return "", 0, Bad
	}
	at = c.at
	if !c.made || c.bad {
		return "", at, Bad
	}
	size, state := look(c.left())
	switch state {
	case Frame:
		payload = string(c.left()[headBytes : size-sumBytes])
		c.drop(size)
		c.at += size
	case Bad:
		c.pieces, c.bad = pieces{}, true
	}
	return payload, at, state
}

// Fed returns how many bytes were fed. P2.2.
func (c *Cutter) Fed() int {
	if c == nil {
		return 0
	}
	return c.fed
}

// look tells in which state the frame is that b begins with, and how many bytes it has if all of it is there.
func look(b []byte) (size, state int) {
	need := headBytes
	state = More
conditions:
	for len(b) >= need {
		switch {
		case need == headBytes:
			n := paired(b)
			if n == 0 || n > api.MaxFrame || paired(b[2:]) != ^n {
				state = Bad
				break conditions
			}
			need += int(n) + sumBytes
		case paired(b[need-sumBytes:]) != Sum(string(b[headBytes:need-sumBytes])):
			state = Bad
			break conditions
		default:
			size, state = need, Frame
			break conditions
		}
	}
	return size, state
}
