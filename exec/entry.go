package exec

import (
	"cmp"
	"slices"

	"switchback/api"
	"switchback/btree"
	"switchback/catalog"
	"switchback/keycode"
	"switchback/value"
)

// The numbers of a store's trees, which are a plan's Indexes: the i-th index
// has tree i.
const (
	allRows = -1
	theKey  = 0
)

// trees are those of s, by their numbers.
func trees(s Store) []btree.State {
	return slices.Concat([]btree.State{s.Main}, s.Side)
}

// key is the values as octets. Of a row that may be there is no error.
func key(values ...api.Value) string {
	octets, _ := keycode.Encode(values)
	return octets
}

// entryOf tells what a row of t has in the tree of that number.
func entryOf(t catalog.Table, index int) func(row []api.Value) api.Pair {
	if index == theKey {
		return func(row []api.Value) api.Pair {
			return api.Pair{Key: key(row[t.Key]), Value: key(row...)}
		}
	}
	column := t.Indexes[index-1].Column
	return func(row []api.Value) api.Pair {
		return api.Pair{Key: key(row[column], row[t.Key])}
	}
}

// entries are all that the rows have in a tree, as it hands them out.
func entries(entry func(row []api.Value) api.Pair, l [][]api.Value) []api.Pair {
	var all []api.Pair
	for _, row := range l {
		all = append(all, entry(row))
	}
	slices.SortFunc(all, func(a, b api.Pair) int {
		return cmp.Compare(a.Key, b.Key)
	})
	return all
}

// byKey is the order of t's rows.
func byKey(t catalog.Table) func(a, b []api.Value) int {
	return func(a, b []api.Value) int {
		return value.Order(a[t.Key], b[t.Key])
	}
}
