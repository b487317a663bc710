package frame

// pieces are bytes that were fed, one piece after the other, and of which the first may be gone.
type pieces struct {
	bytes []byte
	gone  int // how many of them are extracted
	// used is how far the array under bytes is filled. Copies of a Cutter share both: one that finds more filled than is its own must not write there.
	used *int
}

// left are the bytes that are not extracted.
func (p *pieces) left() []byte { return p.bytes[p.gone:] }

func (p *pieces) add(s string) {
	if p.used == nil || *p.used != len(p.bytes) {
		p.move()
	}
	p.bytes = append(p.bytes, s...)
	*p.used = len(p.bytes)
}

// drop lets go of the memory of what is extracted when it is more than what is left, so that a byte is moved a bounded number of times.
func (p *pieces) drop(n int) {
	p.gone += n
	if p.gone > len(p.left()) {
		p.move()
	}
}

// move takes what is left to an array of its own.
func (p *pieces) move() {
	b := append([]byte(nil), p.left()...)
	n := len(b)
	*p = pieces{bytes: b, used: &n}
}
