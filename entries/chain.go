package entries

// node is what a value embeds to be linked with others. One that is cut out keeps its neighbours, between which it is put back.
type node[T any] struct {
	prev, next *node[T]
	of         *T // the value that embeds it; nil, if it is the end of a chain
	out        bool
}

// chain is a doubly linked list of values that embed their nodes: a ring, which its end closes.
type chain[T any] struct{ end node[T] }

// newChain returns a chain of no values.
func newChain[T any]() *chain[T] {
	c := &chain[T]{}
	c.end.prev, c.end.next = &c.end, &c.end
	return c
}

// add adds a value behind all others; n is the node that it embeds.
func (c *chain[T]) add(n *node[T], value *T) {
	*n = node[T]{prev: c.end.prev, next: &c.end, of: value}
	n.putBack()
}

// first returns the first value, or nil if there is none.
func (c *chain[T]) first() *T { return c.end.after() }

// cutOut removes n from its chain.
func (n *node[T]) cutOut() {
	n.prev.next, n.next.prev, n.out = n.next, n.prev, true
}

// putBack puts n back where it was. Of several that are cut out, the last one must be the first that is put back.
func (n *node[T]) putBack() {
	n.prev.next, n.next.prev, n.out = n, n, false
}

// after returns the first value behind n, or nil if there is none. Where n is cut out, so may be its next one; all that was between them was cut out before n, and is put back after it, so nothing is passed over.
func (n *node[T]) after() *T {
	next := n.next
	for next.out {
		next = next.next
	}
	return next.of
}
