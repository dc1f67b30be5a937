package exec_test

import (
	"cmp"
	"slices"
	"testing"

	"switchback/api"
	"switchback/btree"
)

// rolled are numbers from 0 to below n, as many as one likes, the same each time.
func rolled(seed uint64) func(n int) int {
	return func(n int) int {
		seed = seed*6364136223846793005 + 1442695040888963407
		return int(seed >> 33 % uint64(n))
	}
}

// parted are n things in groups of low to high, of which some are greater, some less.
func parted(n, low, high int, next func(n int) int) []int {
	var l []int
	for n > high {
		size := low + next(high-low+1)
		size = min(size, n-low)
		l, n = append(l, size), n-size
	}
	return append(l, n)
}

// A bough is a node of a tree that is being laid, with the least key below it and the greatest.
type bough struct {
	at          int
	first, last string
}

// A layer lays a tree of nodes that are full or nearly empty, as it comes.
type layer struct {
	nodes []btree.Node
	next  func(n int) int
}

func (y *layer) leaf(l []api.Pair) bough {
	var n btree.Node
	for _, p := range l {
		n.Keys, n.Values = append(n.Keys, p.Key), append(n.Values, p.Value)
	}
	y.nodes = append(y.nodes, n)
	return bough{len(y.nodes) - 1, l[0].Key, l[len(l)-1].Key}
}

func (y *layer) above(l []bough) bough {
	n := btree.Node{Kids: []int{l[0].at}}
	for i, kid := range l[1:] {
		between := kid.first
		if y.next(3) == 0 {
			between = l[i].last + "\x00" // a key that is not there
		}
		n.Keys, n.Kids = append(n.Keys, between), append(n.Kids, kid.at)
	}
	y.nodes = append(y.nodes, n)
	return bough{len(y.nodes) - 1, l[0].first, l[len(l)-1].last}
}

// tree is one of those pairs; of several of one key the last counts. No call has made it.
func tree(t *testing.T, l ...api.Pair) btree.State {
	t.Helper()
	l = slices.Clone(l)
	slices.SortStableFunc(l, func(a, b api.Pair) int { return cmp.Compare(a.Key, b.Key) })
	last := func(i int) bool { return i+1 == len(l) || l[i].Key != l[i+1].Key }
	var pairs []api.Pair
	for i, p := range l {
		if last(i) {
			pairs = append(pairs, p)
		}
	}
	if len(pairs) == 0 {
		return btree.New()
	}
	y := layer{next: rolled(uint64(len(pairs)))}
	var row []bough
	for _, n := range parted(len(pairs), 2, 4, y.next) {
		row, pairs = append(row, y.leaf(pairs[:n])), pairs[n:]
	}
	for len(row) > 1 {
		var above []bough
		for _, n := range parted(len(row), 3, 5, y.next) {
			above, row = append(above, y.above(row[:n])), row[n:]
		}
		row = above
	}
	s := btree.State{Nodes: y.nodes, Root: row[0].at}
	if err := btree.Check(s); err != api.OK {
		t.Fatalf("tree: %d: %+v", err, s)
	}
	return s
}
