package exec

import (
	"slices"
	"strings"

	"switchback/api"
	"switchback/btree"
	"switchback/keycode"
	"switchback/plan"
	"switchback/rows"
)

// read answers the rows of s, by key and in new memory, if s may be.
func read(s Store) ([][]api.Value, api.Errno) {
	l, err := decoded(s.Main)
	if err != api.OK || rows.Check(s.Table, l) != api.OK || len(s.Side) != len(s.Table.Indexes) {
		return nil, api.ErrState
	}
	for index, tree := range trees(s) {
		if !holds(tree, entries(entryOf(s.Table, index), l)) {
			return nil, api.ErrState
		}
	}
	return l, api.OK
}

// decoded are the lists of values that stand in a tree.
func decoded(tree btree.State) ([][]api.Value, api.Errno) {
	pairs, err := btree.Range(tree, "", "")
	if err != api.OK {
		return nil, err
	}
	var l [][]api.Value
	for _, p := range pairs {
		row, err := keycode.Decode(p.Value)
		if err != api.OK {
			return nil, err
		}
		// Short texts that are alike may be one as they are decoded.
		for i, v := range row {
			row[i].Text = strings.Clone(v.Text)
		}
		l = append(l, row)
	}
	return l, api.OK
}

// holds tells whether a tree has those pairs, and no others.
func holds(tree btree.State, pairs []api.Pair) bool {
	l, err := btree.Range(tree, "", "")
	return err == api.OK && slices.Equal(l, pairs)
}

// scan is Scan of a store that may be, whose rows are l.
func scan(s Store, l [][]api.Value, p plan.Plan) ([][]api.Value, api.Errno) {
	if p.Index < allRows || p.Index > len(s.Side) {
		return nil, api.ErrRange
	}
	from, to, err := plan.Keys(p)
	if err != api.OK {
		return nil, err
	}
	if p.Index == allRows {
		return l, api.OK
	}
	pairs, _ := btree.Range(trees(s)[p.Index], from, to)
	return found(pairs, entryOf(s.Table, p.Index), l), api.OK
}

// found are those of the rows whose entries the pairs are, in their order.
func found(pairs []api.Pair, entry func(row []api.Value) api.Pair, l [][]api.Value) [][]api.Value {
	under := map[string][]api.Value{}
	for _, row := range l {
		under[entry(row).Key] = row
	}
	var all [][]api.Value
	for _, p := range pairs {
		all = append(all, under[p.Key])
	}
	return all
}
