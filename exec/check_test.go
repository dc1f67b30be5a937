package exec_test

import (
	"fmt"
	"slices"
	"strings"
	"testing"

	"switchback/api"
	"switchback/btree"
	"switchback/catalog"
	"switchback/exec"
	"switchback/plan"
)

// mayNot holds that Check refuses s, and that each other call tells that ahead of all that is wrong with its arguments.
func mayNot(t *testing.T, what string, s exec.Store) {
	t.Helper()
	if err := exec.Check(s); err != api.ErrState {
		t.Errorf("%s: Check = %d", what, err)
	}
	store := func(call string, next exec.Store, err api.Errno) {
		t.Helper()
		if !isNone(next) || err != api.ErrState {
			t.Errorf("%s: %s = %.200s, %d", what, call, fmt.Sprint(next), err)
		}
	}
	rows := func(call string, l []row, err api.Errno) {
		t.Helper()
		if len(l) > 0 || err != api.ErrState {
			t.Errorf("%s: %s = %s, %d", what, call, brief(l), err)
		}
	}
	l, err := exec.Rows(s)
	rows("Rows", l, err)
	for _, given := range [][]row{nil, {nil}, {{text("g"), num(1000), truth(0), null}}, someRows()} {
		next, err := exec.Insert(s, given)
		store("Insert", next, err)
	}
	for _, keys := range [][]api.Value{nil, {num(0)}, {num(1)}} {
		next, err := exec.Delete(s, keys)
		store("Delete", next, err)
	}
	for _, p := range []plan.Plan{span(-1, open, open), span(0, open, open), span(1, in(num(1)), open), span(99, open, open), empty(0)} {
		l, err := exec.Scan(s, p)
		rows("Scan", l, err)
	}
	for _, where := range [][]api.Expr{nil, make([]api.Expr, 2), {{Op: 8, Args: []api.Expr{{Op: 1, Value: num(1)}, {Value: num(2)}}}}, {deep(13)}} {
		l, err := exec.Where(s, where)
		rows("Where", l, err)
	}
	for _, name := range []string{"new", "i", "", "I"} {
		for _, column := range []int{0, -1, 4} {
			next, err := exec.Index(s, name, column)
			store("Index", next, err)
		}
	}
}

// deep is an expression of that depth.
func deep(n int) api.Expr {
	e := api.Expr{Value: truth(1)}
	for range n - 1 {
		e = api.Expr{Op: 3, Args: []api.Expr{e}}
	}
	return e
}

func TestP141StoresThatMayBe(t *testing.T) {
	for _, columns := range fewer() {
		for _, n := range []int{0, 1, 2, 4, 5, 30, 256} {
			stands(t, fmt.Sprint(columns, n), laid(t, table(columns...), numbered(n)), api.OK, table(columns...), numbered(n))
		}
	}
}

func TestP141TablesThatMayNotBe(t *testing.T) {
	mayNot(t, "nothing at all", exec.Store{})
	for what, x := range badTables() {
		// As many trees as it has indexes, all of the right rows.
		for _, l := range [][]row{nil, someRows()} {
			s := exec.Store{Table: x, Main: tree(t, pairsOf(t, table(), 0, l)...)}
			for i := range x.Indexes {
				by := table(0, 3, 0, 0, 0)
				s.Side = append(s.Side, tree(t, pairsOf(t, by, i+1, l)...))
			}
			mayNot(t, what, s)
			s.Side = nil
			mayNot(t, what+", no trees", s)
		}
	}
}

// The rows are as they were; the table that they are of is another one that may be.
func TestP141RowsOfAnotherTable(t *testing.T) {
	for what, x := range map[string]struct {
		change func(t *catalog.Table)
		may    bool
	}{
		"another name":             {func(t *catalog.Table) { t.Name = "u" }, true},
		"other names of columns":   {func(t *catalog.Table) { t.Columns[0].Name, t.Columns[1].Name = "b", "a" }, true},
		"other names of indexes":   {func(t *catalog.Table) { t.Indexes[0].Name, t.Indexes[1].Name = "j", "i" }, true},
		"NULL where none may be":   {func(t *catalog.Table) { t.Columns[3].NotNull = true }, false},
		"another kind":             {func(t *catalog.Table) { t.Columns[2].Kind = 1 }, false},
		"another kind of key":      {func(t *catalog.Table) { t.Columns[1].Kind = 3 }, false},
		"two columns turned round": {func(t *catalog.Table) { t.Columns[0], t.Columns[2] = t.Columns[2], t.Columns[0] }, false},
		"one column less":          {func(t *catalog.Table) { t.Columns, t.Indexes[1].Column = t.Columns[:3], 2 }, false},
		"one column more": {func(t *catalog.Table) {
			t.Columns = append(t.Columns, api.Column{Name: "e", Kind: 1})
		}, false},
		"one index less":       {func(t *catalog.Table) { t.Indexes = t.Indexes[:1] }, false},
		"no index":             {func(t *catalog.Table) { t.Indexes = nil }, false},
		"one index more":       {func(t *catalog.Table) { *t = table(0, 3, 3) }, false},
		"indexes turned round": {func(t *catalog.Table) { *t = table(3, 0) }, false},
		"an index of others":   {func(t *catalog.Table) { *t = table(0, 2) }, false},
	} {
		s := laid(t, table(0, 3), someRows())
		s.Table = table(0, 3)
		x.change(&s.Table)
		if x.may {
			stands(t, what, s, api.OK, s.Table, someRows())
		} else {
			mayNot(t, what, s)
		}
	}
	// All that a key's column has to be, but not the key.
	x := catalog.Table{Name: "t", Columns: []api.Column{{Name: "a", Kind: 1, NotNull: true}, {Name: "b", Kind: 1, NotNull: true}}}
	s := laid(t, x, []row{{num(1), num(2)}, {num(3), num(4)}})
	s.Table.Key = 1
	mayNot(t, "another key", s)
	s = laid(t, x, []row{{num(1), num(1)}, {num(3), num(3)}})
	s.Table.Key = 1
	stands(t, "another key of like values", s, api.OK, s.Table, []row{{num(1), num(1)}, {num(3), num(3)}})
}

// badTrees are trees that may not be.
func badTrees() map[string]btree.State {
	leaf := func(keys ...string) btree.Node {
		return btree.Node{Keys: keys, Values: make([]string, len(keys))}
	}
	return map[string]btree.State{
		"no nodes, Root 0":    {},
		"no nodes, Root -2":   {Root: -2},
		"a node, Root -1":     {Nodes: []btree.Node{leaf("\x40")}, Root: -1},
		"a node, Root 1":      {Nodes: []btree.Node{leaf("\x40")}, Root: 1},
		"a root without keys": {Nodes: []btree.Node{{}}},
		"keys fall":           {Nodes: []btree.Node{leaf("\x50", "\x40")}},
		"a key twice":         {Nodes: []btree.Node{leaf("\x50", "\x50")}},
		"five keys":           {Nodes: []btree.Node{leaf("\x40", "\x50", "\x51", "\x52", "\x53")}},
		"no values":           {Nodes: []btree.Node{{Keys: []string{"\x40"}}}},
		"its own kid":         {Nodes: []btree.Node{{Keys: []string{"\x40"}, Kids: []int{0, 0}}}},
		"a leaf of one":       {Nodes: []btree.Node{{Keys: []string{"\x50"}, Kids: []int{1, 2}}, leaf("\x40"), leaf("\x50", "\x51")}},
		"a node beside":       {Nodes: []btree.Node{leaf("\x40"), leaf("\x40", "\x50")}},
	}
}

func TestP141TreesThatMayNotBe(t *testing.T) {
	for what, bad := range badTrees() {
		for _, l := range [][]row{nil, someRows()} {
			s := laid(t, table(0, 1, 2, 3), l)
			for i, side := range s.Side {
				s.Side[i] = bad
				mayNot(t, fmt.Sprint(what, ", index ", i+1), s)
				s.Side[i] = side
			}
			s.Main = bad
			mayNot(t, what, s)
			mayNot(t, what+", no index", exec.Store{Table: table(), Main: bad})
		}
	}
	// One thing in trees that have all that they ought to.
	for _, n := range []int{1, 4, 5, 7, 40} {
		for i := range 3 {
			what := fmt.Sprint(n, " rows, tree ", i)
			for change, edit := range map[string]func(s *btree.State){
				"another Root":        func(s *btree.State) { s.Root++ },
				"one node more":       func(s *btree.State) { s.Nodes = append(s.Nodes, btree.Node{}) },
				"a key less":          func(s *btree.State) { s.Nodes[0].Keys = s.Nodes[0].Keys[1:] },
				"a value more":        func(s *btree.State) { s.Nodes[0].Values = append(s.Nodes[0].Values, "") },
				"the greatest as key": func(s *btree.State) { s.Nodes[0].Keys[len(s.Nodes[0].Keys)-1] = "\xff" },
				"a kid of a leaf":     func(s *btree.State) { s.Nodes[0].Kids = []int{0} },
			} {
				s := laid(t, table(0, 3), numbered(n))
				edit([]*btree.State{&s.Main, &s.Side[0], &s.Side[1]}[i])
				mayNot(t, what+": "+change, s)
			}
		}
	}
}

// replaced is a store in whose Main that pair stands, too, or instead of one of that key.
func replaced(t *testing.T, s exec.Store, p api.Pair) exec.Store {
	t.Helper()
	var err api.Errno
	if s.Main, err = btree.Put(s.Main, p.Key, p.Value); err != api.OK {
		t.Fatal(err)
	}
	return s
}

func TestP141RowsThatMayNotBe(t *testing.T) {
	for _, columns := range fewer() {
		s := laid(t, table(columns...), someRows())
		r := someRows()[3]
		key := keycodeOf(t, r[1])
		of := func(l ...api.Value) string { return keycodeOf(t, l...) }
		for what, octets := range map[string]string{
			"no octets":             "",
			"one value":             of(r[0]),
			"one value too few":     of(r[:3]...),
			"one value too many":    of(r[0], r[1], r[2], r[3], null),
			"65 values":             strings.Repeat("\x04", 65),
			"the key":               key,
			"another key in it":     of(r[0], num(3), r[2], r[3]),
			"NULL as key":           of(r[0], null, r[2], r[3]),
			"another kind":          of(r[0], r[1], num(1), r[3]),
			"another kind, last":    of(r[0], r[1], r[2], text("")),
			"another kind of key":   of(r[0], truth(1), r[2], r[3]),
			"turned round":          of(r[3], r[1], r[2], r[0]),
			"an octet behind":       of(r...) + "\x00",
			"another row behind":    of(r...) + of(r...),
			"the last octet less":   of(r...)[:len(of(r...))-1],
			"a first octet of none": "\x05" + of(r...)[1:],
			"a longer number":       of(r[0]) + "\x42\x00\x02" + of(r[2], r[3]),
			"a text too long":       "\x60" + strings.Repeat("a", 65) + "\x00" + of(r[1:]...),
			"a mark of none":        "\x60\x01\x03\x00" + of(r[1:]...),
			"a text without an end": of(r[1:]...) + "\x60a",
		} {
			mayNot(t, what, replaced(t, s, api.Pair{Key: key, Value: octets}))
		}
		// Where side trees are as the other values ask.
		for _, l := range [][]row{
			with(someRows(), 3, 0, num(0)), with(someRows(), 3, 2, num(1)), with(someRows(), 3, 3, truth(1)), with(someRows(), 0, 2, text("")),
			append(someRows()[:6], row{text("a"), num(257), truth(1)}), append(someRows()[:6], row{text("a"), num(257), truth(1), num(0), null}),
		} {
			if len(l[6]) == 4 || !slices.Contains(columns, 3) {
				mayNot(t, fmt.Sprint(columns, ": all trees as ", l), laid(t, table(columns...), l))
			}
		}
	}
}

func TestP141RowsUnderOtherKeys(t *testing.T) {
	for _, columns := range fewer() {
		s := laid(t, table(columns...), someRows())
		r := someRows()[3]
		of := func(l ...api.Value) string { return keycodeOf(t, l...) }
		for what, key := range map[string]string{
			"none":                   "",
			"another number":         of(num(3)),
			"a longer number":        "\x42\x00\x02",
			"a value behind":         of(num(2), null),
			"an octet behind":        of(num(2)) + "\x00",
			"another column's":       of(r[0]),
			"another kind":           of(text("2")),
			"NULL":                   of(null),
			"no octets of a value":   "\x05",
			"the whole row":          of(r...),
			"that of an index":       of(r[0], r[1]),
			"octets above all":       "\xff",
			"another row's, by Main": of(num(1 << 40)),
		} {
			moved := s
			moved.Main, _, _ = btree.Delete(s.Main, of(num(2)))
			mayNot(t, what, replaced(t, moved, api.Pair{Key: key, Value: of(r...)}))
			mayNot(t, what+", too", replaced(t, s, api.Pair{Key: key, Value: of(r...)}))
		}
		// Two rows, each under the other's key.
		turned := replaced(t, replaced(t, s, api.Pair{Key: of(num(2)), Value: of(someRows()[4]...)}), api.Pair{Key: of(num(255)), Value: of(r...)})
		mayNot(t, "turned round", turned)
	}
}

func TestP141MoreRowsThanMayBe(t *testing.T) {
	for _, n := range []int{257, 300, 2048} {
		for _, columns := range [][]int{nil, {0}, {0, 1, 2, 3}} {
			if n < 2048 || len(columns) < 2 {
				mayNot(t, fmt.Sprint(n, " rows"), laid(t, table(columns...), numbered(n)))
			}
		}
	}
}

func TestP141AsManySideTreesAsIndexes(t *testing.T) {
	for _, l := range [][]row{nil, someRows(), numbered(40)} {
		for _, columns := range fewer() {
			s := laid(t, table(columns...), l)
			for n := range len(columns) {
				few := s
				few.Side = s.Side[:n]
				mayNot(t, fmt.Sprint(columns, ": just ", n, " trees"), few)
			}
			for _, more := range []btree.State{btree.New(), s.Main, {}, append(s.Side, s.Main)[0]} {
				many := s
				many.Side = append(slices.Clone(s.Side), more)
				mayNot(t, fmt.Sprint(columns, ": one tree more"), many)
				many.Side = append(many.Side, make([]btree.State, 1000)...)
				mayNot(t, fmt.Sprint(columns, ": many trees more"), many)
			}
		}
	}
}

// sided is s with another side tree at that place.
func sided(s exec.Store, i int, side btree.State) exec.Store {
	s.Side = slices.Clone(s.Side)
	s.Side[i] = side
	return s
}

func TestP141SideTreesOfOtherEntries(t *testing.T) {
	for _, l := range [][]row{someRows(), numbered(20)} {
		for _, columns := range fewer() {
			x := table(columns...)
			s := laid(t, x, l)
			for i := range columns {
				all := pairsOf(t, x, i+1, l)
				for at, p := range all {
					if at > 6 && at%7 > 0 {
						continue
					}
					what := fmt.Sprint(columns, ": index ", i+1, ", entry ", at)
					less := slices.Delete(slices.Clone(all), at, at+1)
					mayNot(t, what+" less", sided(s, i, tree(t, less...)))
					for other, q := range map[string]api.Pair{
						"with a value":          {Key: p.Key, Value: "\x00"},
						"with its key as value": {Key: p.Key, Value: p.Key},
						"an octet behind":       {Key: p.Key + "\x00"},
						"without its last":      {Key: p.Key[:len(p.Key)-1]},
						"of a key that is none": {Key: p.Key[:len(p.Key)-1] + "\x77"},
						"of no octets":          {},
					} {
						mayNot(t, what+" "+other, sided(s, i, tree(t, append(less, q)...)))
						if q.Key != p.Key {
							mayNot(t, what+" too, "+other, sided(s, i, tree(t, append(slices.Clone(all), q)...)))
						}
					}
				}
				c := columns[i]
				if c != 1 {
					r := slices.Clone(l[2])
					r[c] = []api.Value{text("other"), null, truth(1 - r[2].N), num(-8)}[c]
					changed := slices.Replace(slices.Clone(l), 2, 3, r)
					mayNot(t, "of another value", sided(s, i, tree(t, pairsOf(t, x, i+1, changed)...)))
				}
				other := slices.Clone(l[2])
				other[1] = num(1)
				moved := slices.Replace(slices.Clone(l), 2, 3, other)
				mayNot(t, "of another row", sided(s, i, tree(t, pairsOf(t, x, i+1, moved)...)))
				mayNot(t, "of one row more", sided(s, i, tree(t, pairsOf(t, x, i+1, append(slices.Clone(l), other))...)))
				mayNot(t, "of none", sided(s, i, btree.New()))
				mayNot(t, "that of Main", sided(s, i, s.Main))
				withoutNull := slices.DeleteFunc(slices.Clone(all), func(p api.Pair) bool { return p.Key[0] == 4 })
				if len(withoutNull) < len(all) {
					mayNot(t, "without the NULLs", sided(s, i, tree(t, withoutNull...)))
				}
				for j, d := range columns {
					if c == d {
						stands(t, "another's of that column", sided(s, i, s.Side[j]), api.OK, x, l)
					} else {
						mayNot(t, "another's", sided(s, i, s.Side[j]))
					}
				}
			}
			for i := range columns {
				none := sided(laid(t, x, nil), i, s.Side[i])
				mayNot(t, "of rows that are not there", none)
			}
		}
	}
}
