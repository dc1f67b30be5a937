package exec

import (
	"switchback/api"
	"switchback/btree"
	"switchback/catalog"
)

// changed is s in memory of its own, without the rows that go, and with those
// that come.
func changed(s Store, gone [][]api.Value, come [][]api.Value) Store {
	change := func(index int, tree btree.State) btree.State {
		entry := entryOf(s.Table, index)
		return grown(pruned(tree, entry, gone), entry, come)
	}
	next := Store{Table: fresh(s.Table), Main: change(theKey, s.Main)}
	for i, tree := range s.Side {
		next.Side = append(next.Side, change(i+1, tree))
	}
	return next
}

// pruned is a tree in memory of its own, without the rows' entries.
func pruned(tree btree.State, entry func(row []api.Value) api.Pair, l [][]api.Value) btree.State {
	// No entry has a key of no octets: without it the tree is what it was.
	tree, _, _ = btree.Delete(tree, "")
	for _, row := range l {
		tree, _, _ = btree.Delete(tree, entry(row).Key)
	}
	return tree
}

// grown is a tree with the rows' entries, for which there is always room: rows
// are fewer than pairs of a tree may be.
func grown(tree btree.State, entry func(row []api.Value) api.Pair, l [][]api.Value) btree.State {
	for _, row := range l {
		p := entry(row)
		tree, _ = btree.Put(tree, p.Key, p.Value)
	}
	return tree
}

// without are those rows of l that are not left. Both come by key.
func without(t catalog.Table, l [][]api.Value, left [][]api.Value) [][]api.Value {
	order := byKey(t)
	var gone [][]api.Value
	for _, row := range l {
		if len(left) > 0 && order(row, left[0]) == 0 {
			left = left[1:]
		} else {
			gone = append(gone, row)
		}
	}
	return gone
}

// fresh is a table that may be, in memory of its own: what is decoded is.
func fresh(t catalog.Table) catalog.Table {
	written, _ := catalog.Encode(t)
	t, _ = catalog.Decode(written)
	return t
}
