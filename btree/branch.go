package btree

import (
	"iter"
	"slices"

	"switchback/api"
)

// A branch is a node and all below it, on their way from one tree to the next.
// Without keys it is a tree of no nodes.
type branch struct {
	keys   []string
	values []string
	kids   []*branch
}

func (b *branch) isLeaf() bool {
	return len(b.kids) == 0
}

// toward answers which kid's span holds the key.
func (b *branch) toward(key string) int {
	at, is := slices.BinarySearch(b.keys, key)
	if is {
		return at + 1
	}
	return at
}

func (b *branch) get(key string) (string, bool) {
	for !b.isLeaf() {
		b = b.kids[b.toward(key)]
	}
	at, is := slices.BinarySearch(b.keys, key)
	if !is {
		return "", false
	}
	return b.values[at], true
}

// pairs hands out the pairs with keys from from on, by key.
func (b *branch) pairs(from string) iter.Seq[api.Pair] {
	return func(yield func(p api.Pair) bool) {
		b.hand(from, yield)
	}
}

// hand hands out pairs, and tells whether more of them are wanted.
func (b *branch) hand(from string, yield func(p api.Pair) bool) bool {
	if b.isLeaf() {
		at, _ := slices.BinarySearch(b.keys, from)
		for i := at; i < len(b.keys); i++ {
			if !yield(api.Pair{Key: b.keys[i], Value: b.values[i]}) {
				return false
			}
		}
		return true
	}
	for _, kid := range b.kids[b.toward(from):] {
		if !kid.hand(from, yield) {
			return false
		}
	}
	return true
}

func (b *branch) count() int {
	n := 0
	for range b.pairs("") {
		n++
	}
	return n
}

func (b *branch) depth() int {
	if len(b.keys) == 0 {
		return 0
	}
	deep := 1
	for !b.isLeaf() {
		b, deep = b.kids[0], deep+1
	}
	return deep
}
