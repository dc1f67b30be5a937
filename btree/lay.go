package btree

import (
	"slices"
	"strings"
)

// laidOut is the tree whose root stands above all: in new memory, its nodes
// numbered as they are met, kids ahead of what stands above them.
func laidOut(root *branch) State {
	s := New()
	if len(root.keys) == 0 {
		return s
	}
	var lay func(b *branch) int
	lay = func(b *branch) int {
		n := Node{Keys: fresh(b.keys), Values: fresh(b.values)}
		for _, kid := range b.kids {
			n.Kids = append(n.Kids, lay(kid))
		}
		s.Nodes = append(s.Nodes, n)
		return len(s.Nodes) - 1
	}
	s.Root = lay(root)
	return s
}

// copied is s in memory of its own, its texts too.
func copied(s State) State {
	next := State{Root: s.Root}
	for _, n := range s.Nodes {
		next.Nodes = append(next.Nodes, Node{fresh(n.Keys), fresh(n.Values), slices.Clone(n.Kids)})
	}
	return next
}

// fresh is l in memory of its own, its texts too.
func fresh(l []string) []string {
	next := slices.Grow([]string(nil), len(l))
	for _, text := range l {
		next = append(next, strings.Clone(text))
	}
	return next
}
