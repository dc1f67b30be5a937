package btree

import "slices"

// No list is written into: it may be the caller's own, or a part of another.

func inserted[T any](l []T, at int, x T) []T {
	return slices.Concat(l[:at], []T{x}, l[at:])
}

func removed[T any](l []T, at int) []T {
	return slices.Concat(l[:at], l[at+1:])
}

// put gives the key that value. It may leave b with one key too many.
func (b *branch) put(key string, value string) {
	if b.isLeaf() {
		b.putHere(key, value)
		return
	}
	at := b.toward(key)
	b.kids[at].put(key, value)
	if len(b.kids[at].keys) > mostKeys {
		b.split(at)
	}
}

func (b *branch) putHere(key string, value string) {
	at, is := slices.BinarySearch(b.keys, key)
	if is {
		b.values = removed(b.values, at)
	} else {
		b.keys = inserted(b.keys, at, key)
	}
	b.values = inserted(b.values, at, value)
}

// delete takes the key away, and tells whether it was there. It may leave b
// with one key too few.
func (b *branch) delete(key string) bool {
	if b.isLeaf() {
		return b.deleteHere(key)
	}
	at := b.toward(key)
	was := b.kids[at].delete(key)
	if len(b.kids[at].keys) < leastKeys {
		b.refill(at)
	}
	return was
}

func (b *branch) deleteHere(key string) bool {
	at, is := slices.BinarySearch(b.keys, key)
	if is {
		b.keys, b.values = removed(b.keys, at), removed(b.values, at)
	}
	return is
}

// split makes two kids of one that has too many keys.
func (b *branch) split(at int) {
	left, right := b.kids[at], &branch{}
	middle := len(left.keys) / 2
	between := left.keys[middle]
	if left.isLeaf() {
		right.keys = left.keys[middle:]
		left.values, right.values = left.values[:middle], left.values[middle:]
	} else {
		// What parts the two stands above them alone.
		right.keys = left.keys[middle+1:]
		left.kids, right.kids = left.kids[:middle+1], left.kids[middle+1:]
	}
	left.keys = left.keys[:middle]
	b.keys, b.kids = inserted(b.keys, at, between), inserted(b.kids, at+1, right)
}

// refill makes one kid of one that has too few keys and a brother; of one that
// then has too many, two again.
func (b *branch) refill(at int) {
	at = min(at, len(b.kids)-2)
	left, right := b.kids[at], b.kids[at+1]
	var between []string
	if !left.isLeaf() {
		between = b.keys[at : at+1]
	}
	left.keys = slices.Concat(left.keys, between, right.keys)
	left.values = slices.Concat(left.values, right.values)
	left.kids = slices.Concat(left.kids, right.kids)
	b.keys, b.kids = removed(b.keys, at), removed(b.kids, at+1)
	if len(left.keys) > mostKeys {
		b.split(at)
	}
}

// root is what stands above all, once b did: of too many keys one more, which
// has b in two; of a single kid that kid.
func (b *branch) root() *branch {
	switch {
	case len(b.keys) > mostKeys:
		above := &branch{kids: []*branch{b}}
		above.split(0)
		return above
	case len(b.kids) == 1:
		return b.kids[0]
	}
	return b
}
