package exec_test

import (
	"cmp"
	"fmt"
	"reflect"
	"slices"
	"strings"
	"testing"

	"switchback/api"
	"switchback/btree"
	"switchback/catalog"
	"switchback/exec"
	"switchback/keycode"
	"switchback/plan"
)

type row = []api.Value

var null api.Value

func num(n int) api.Value { return api.Value{Kind: 1, N: n} }

func truth(n int) api.Value { return api.Value{Kind: 2, N: n} }

func text(s string) api.Value { return api.Value{Kind: 3, Text: s} }

// table has the columns a (a text), b (a number, the key), c (a truth), d (a number), and indexes i, j, ... of the columns at those places.
func table(columns ...int) catalog.Table {
	t := catalog.Table{Name: "t", Key: 1, Columns: []api.Column{{Name: "a", Kind: 3}, {Name: "b", Kind: 1, NotNull: true}, {Name: "c", Kind: 2}, {Name: "d", Kind: 1}}}
	for i, c := range columns {
		t.Indexes = append(t.Indexes, catalog.Index{Name: string(rune('i' + i)), Column: c})
	}
	return t
}

// rows are some of that table, by key: with two alike in each column but the key's, and with NULLs.
func someRows() []row {
	return []row{
		{text("x"), num(-300), truth(1), null},
		{null, num(-1), truth(0), num(7)},
		{text(""), num(0), null, num(7)},
		{text("x"), num(2), truth(1), num(-7)},
		{text("x\x00"), num(255), truth(0), num(1 << 40)},
		{null, num(256), null, null},
		{text("a"), num(257), truth(1), num(0)},
	}
}

// numbered are n rows of that table, by key.
func numbered(n int) []row {
	var l []row
	for i := range n {
		r := row{text(fmt.Sprint("t", i%7)), num(3 * i), truth(i % 2), num(100 - i)}
		for place, part := range map[int]int{0: 5, 2: 9, 3: 4} {
			if i%part == 0 {
				r[place] = null
			}
		}
		l = append(l, r)
	}
	return l
}

// fewer are the columns of indexes: none, one of each, two, four.
func fewer() [][]int {
	return [][]int{nil, {0}, {1}, {2}, {3}, {3, 0}, {2, 2}, {0, 1, 2, 3}, {3, 2, 3, 0}}
}

func keycodeOf(t *testing.T, l ...api.Value) string {
	t.Helper()
	s, err := keycode.Encode(l)
	if err != api.OK {
		t.Fatal("keycode:", l, err)
	}
	return s
}

func shuffled[T any](l []T, next func(n int) int) []T {
	l = slices.Clone(l)
	for i := range l {
		j := i + next(len(l)-i)
		l[i], l[j] = l[j], l[i]
	}
	return l
}

// pairsOf are what the chapter says that a tree holds, by key: 0 is Main, i that of the i-th index.
func pairsOf(t *testing.T, x catalog.Table, index int, l []row) []api.Pair {
	t.Helper()
	var pairs []api.Pair
	for _, r := range l {
		p := api.Pair{Key: keycodeOf(t, r[x.Key]), Value: keycodeOf(t, r...)}
		if index > 0 {
			p = api.Pair{Key: keycodeOf(t, r[x.Indexes[index-1].Column]) + p.Key}
		}
		pairs = append(pairs, p)
	}
	slices.SortFunc(pairs, func(a, b api.Pair) int { return cmp.Compare(a.Key, b.Key) })
	return pairs
}

// laid is a store by hand.
func laid(t *testing.T, x catalog.Table, l []row) exec.Store {
	t.Helper()
	s := exec.Store{Table: x, Main: tree(t, pairsOf(t, x, 0, l)...)}
	for i := range x.Indexes {
		s.Side = append(s.Side, tree(t, pairsOf(t, x, i+1, l)...))
	}
	return s
}

func sameRows(a, b []row) bool { return slices.EqualFunc(a, b, slices.Equal[row]) }

func sameTable(a, b catalog.Table) bool {
	return a.Name == b.Name && a.Key == b.Key && slices.Equal(a.Columns, b.Columns) && slices.Equal(a.Indexes, b.Indexes)
}

// brief shows rows, as far as they are few.
func brief(l []row) string {
	if len(l) > 12 {
		return fmt.Sprint(len(l), " rows, from ", l[0], " to ", l[len(l)-1])
	}
	return fmt.Sprint(l)
}

func pairs(t *testing.T, what string, s btree.State) []api.Pair {
	t.Helper()
	l, err := btree.Range(s, "", "")
	if err != api.OK {
		t.Fatalf("%s: a tree that may not be: %+v", what, s)
	}
	return l
}

// stands holds that s may be, has that table and those rows, by key, and in its trees just what they ask.
func stands(t *testing.T, what string, s exec.Store, err api.Errno, x catalog.Table, l []row) {
	t.Helper()
	if err != api.OK {
		t.Fatalf("%s: %d", what, err)
	}
	if !sameTable(s.Table, x) || len(s.Side) != len(x.Indexes) {
		t.Fatalf("%s: the table %+v with %d trees, not %+v", what, s.Table, len(s.Side), x)
	}
	if !slices.Equal(pairs(t, what, s.Main), pairsOf(t, x, 0, l)) {
		t.Fatalf("%s: Main has %+v", what, s.Main)
	}
	for i, side := range s.Side {
		if !slices.Equal(pairs(t, what, side), pairsOf(t, x, i+1, l)) {
			t.Fatalf("%s: index %d has %+v", what, i+1, side)
		}
	}
	checks(t, what, s, l)
}

// checks holds that s may be, and has those rows.
func checks(t *testing.T, what string, s exec.Store, l []row) {
	t.Helper()
	if err := exec.Check(s); err != api.OK {
		t.Fatalf("%s: Check = %d", what, err)
	}
	if told, err := exec.Rows(s); err != api.OK || !sameRows(told, l) {
		t.Fatalf("%s: Rows = %s, %d, not %s", what, brief(told), err, brief(l))
	}
}

func isNone(s exec.Store) bool { return reflect.ValueOf(s).IsZero() }

// made is a store of those rows, by Insert.
func made(t *testing.T, x catalog.Table, l ...row) exec.Store {
	t.Helper()
	s, err := exec.New(x)
	if err == api.OK {
		s, err = exec.Insert(s, l)
	}
	if err != api.OK {
		t.Fatal("made:", err)
	}
	return s
}

// with is l with another value at a place of one of its rows.
func with(l []row, at, place int, v api.Value) []row {
	l = slices.Clone(l)
	l[at] = slices.Clone(l[at])
	l[at][place] = v
	return l
}

// badTables are tables that may not be, each by one thing.
func badTables() map[string]catalog.Table {
	l := map[string]catalog.Table{"none": {}}
	for what, change := range map[string]func(t *catalog.Table){
		"no name":                func(t *catalog.Table) { t.Name = "" },
		"a name in great":        func(t *catalog.Table) { t.Name = "T" },
		"a keyword as name":      func(t *catalog.Table) { t.Name = "select" },
		"no columns":             func(t *catalog.Table) { t.Columns, t.Indexes = nil, nil },
		"a column's kind":        func(t *catalog.Table) { t.Columns[3].Kind = 4 },
		"a column of NULL":       func(t *catalog.Table) { t.Columns[3].Kind = 0 },
		"a column's name":        func(t *catalog.Table) { t.Columns[3].Name = "D" },
		"two columns alike":      func(t *catalog.Table) { t.Columns[3].Name = "a" },
		"a key that may be NULL": func(t *catalog.Table) { t.Columns[1].NotNull = false },
		"another key":            func(t *catalog.Table) { t.Key = 0 },
		"a key below 0":          func(t *catalog.Table) { t.Key = -1 },
		"a key beyond":           func(t *catalog.Table) { t.Key = 4 },
		"an index beyond":        func(t *catalog.Table) { t.Indexes[0].Column = 4 },
		"an index below 0":       func(t *catalog.Table) { t.Indexes[1].Column = -1 },
		"an index's name":        func(t *catalog.Table) { t.Indexes[0].Name = "" },
		"an index's name, great": func(t *catalog.Table) { t.Indexes[0].Name = "I" },
		"two indexes alike":      func(t *catalog.Table) { t.Indexes[1].Name = "i" },
	} {
		x := table(0, 3)
		change(&x)
		l[what] = x
	}
	l["five indexes"] = table(0, 1, 2, 3, 0)
	nine := table()
	for _, n := range "efghi" {
		nine.Columns = append(nine.Columns, api.Column{Name: string(n), Kind: 1})
	}
	l["nine columns"] = nine
	return l
}

// The chapter's example.
func TestP141ExampleOne(t *testing.T) {
	x := catalog.Table{Name: "t", Columns: []api.Column{{Name: "a", Kind: 1, NotNull: true}, {Name: "b", Kind: 1}}, Indexes: []catalog.Index{{Name: "i", Column: 1}}}
	s := made(t, x, row{num(1), num(9)}, row{num(2), num(8)})
	main, side := pairs(t, "Main", s.Main), pairs(t, "Side", s.Side[0])
	if !slices.Equal(main, []api.Pair{{Key: "\x41\x01", Value: "\x41\x01\x41\x09"}, {Key: "\x41\x02", Value: "\x41\x02\x41\x08"}}) {
		t.Errorf("Main: %q", main)
	}
	if !slices.Equal(side, []api.Pair{{Key: "\x41\x08\x41\x02"}, {Key: "\x41\x09\x41\x01"}}) {
		t.Errorf("Side: %q", side)
	}
}

func TestP141New(t *testing.T) {
	for _, columns := range fewer() {
		s, err := exec.New(table(columns...))
		stands(t, fmt.Sprint(columns), s, err, table(columns...), nil)
		for _, tree := range append(s.Side, s.Main) {
			if len(tree.Nodes) > 0 || tree.Root != -1 {
				t.Errorf("%v: an empty tree is %+v", columns, tree)
			}
		}
	}
	for kind := 1; kind <= 3; kind++ {
		for width := 1; width <= 8; width++ {
			x := catalog.Table{Name: "a_16_letters_one", Key: width - 1}
			for i := range width {
				x.Columns = append(x.Columns, api.Column{Name: fmt.Sprint("c", i), Kind: kind, NotNull: i+1 == width})
			}
			s, err := exec.New(x)
			stands(t, fmt.Sprint("of width ", width), s, err, x, nil)
		}
	}
}

func TestP141NewOfTablesThatMayNotBe(t *testing.T) {
	for what, x := range badTables() {
		if s, err := exec.New(x); !isNone(s) || err != api.ErrState {
			t.Errorf("%s: New = %+v, %d", what, s, err)
		}
	}
}

func TestP141RowsByKey(t *testing.T) {
	for _, columns := range fewer() {
		x := table(columns...)
		for n := range len(someRows()) + 1 {
			l := someRows()[:n]
			checks(t, "laid by hand", laid(t, x, l), l)
			turned := slices.Clone(l)
			slices.Reverse(turned)
			checks(t, "turned round", made(t, x, turned...), l)
		}
		for _, n := range []int{4, 5, 25, 100, 255, 256} {
			checks(t, fmt.Sprint(n, " rows"), laid(t, x, numbered(n)), numbered(n))
		}
	}
	// By the order of the values, of each kind.
	for kind, l := range map[int][]api.Value{
		1: {num(-1 << 63), num(-257), num(-256), num(-1), num(0), num(1), num(255), num(256), num(1<<63 - 1)},
		2: {truth(0), truth(1)},
		3: {text(""), text("\x00"), text("\x00\x00"), text("\x01"), text("\x02"), text("A"), text("a"), text("a\x00"), text("aa"), text(strings.Repeat("a", 64)), text("\xff"), text("\xff\xff")},
	} {
		x := catalog.Table{Name: "t", Columns: []api.Column{{Name: "k", Kind: kind, NotNull: true}}, Indexes: []catalog.Index{{Name: "i"}}}
		var all []row
		for _, v := range l {
			all = append(all, row{v})
		}
		next := rolled(uint64(kind))
		for range 20 {
			s := made(t, x, shuffled(all, next)...)
			stands(t, fmt.Sprint("keys of kind ", kind), s, api.OK, x, all)
		}
	}
}

func TestP141Insert(t *testing.T) {
	next := rolled(141)
	for _, columns := range fewer() {
		x := table(columns...)
		all := someRows()
		for some := range 1 << len(all) {
			var there, given []row
			for i, r := range all {
				if some>>i&1 == 0 {
					there = append(there, r)
				} else {
					given = append(given, r)
				}
			}
			s, err := exec.Insert(laid(t, x, there), shuffled(given, next))
			stands(t, fmt.Sprint(columns, ": some of few"), s, err, x, all)
		}
		s, err := exec.New(x)
		for i, r := range shuffled(numbered(60), next) {
			if s, err = exec.Insert(s, []row{r}); err != api.OK {
				t.Fatal(columns, i, err)
			}
		}
		stands(t, fmt.Sprint(columns, ": one by one"), s, err, x, numbered(60))
		s, err = exec.Insert(made(t, x, numbered(256)[:200]...), numbered(256)[200:])
		stands(t, fmt.Sprint(columns, ": to the end of the room"), s, err, x, numbered(256))
	}
}

// refusesInsert holds that Insert tells that error, as rows.Insert does, and no store.
func refusesInsert(t *testing.T, what string, s exec.Store, l []row, want api.Errno) {
	t.Helper()
	if next, err := exec.Insert(s, l); !isNone(next) || err != want {
		t.Errorf("%s: Insert = %+v, %d, not %d", what, next, err, want)
	}
}

func TestP141InsertErrors(t *testing.T) {
	good := row{text("g"), num(1000), truth(0), null}
	bad := func(place int, v api.Value) row { return with([]row{good}, 0, place, v)[0] }
	for _, columns := range fewer() {
		s := laid(t, table(columns...), someRows())
		for what, x := range map[string]struct {
			row  row
			want api.Errno
		}{
			"no values":               {nil, api.ErrCount},
			"one too few":             {good[:3], api.ErrCount},
			"one too many":            {append(slices.Clone(good), null), api.ErrCount},
			"a value that may not be": {bad(2, truth(2)), api.ErrState},
			"a key that may not be":   {bad(1, api.Value{Kind: 1, N: 1000, Text: "x"}), api.ErrState},
			"a text too long":         {bad(0, text(strings.Repeat("a", 65))), api.ErrState},
			"an unknown kind":         {bad(3, api.Value{Kind: 4}), api.ErrState},
			"NULL as key":             {bad(1, null), api.ErrNull},
			"another kind":            {bad(3, text("7")), api.ErrType},
			"another kind of key":     {bad(1, truth(1)), api.ErrType},
			"a key that is there":     {bad(1, num(2)), api.ErrKey},
			"the whole row again":     {someRows()[3], api.ErrKey},
		} {
			refusesInsert(t, what, s, []row{x.row}, x.want)
			refusesInsert(t, what+", behind a good one", s, []row{good, x.row}, x.want)
			refusesInsert(t, what+", ahead of others", s, []row{x.row, good, nil, someRows()[0]}, x.want)
		}
		refusesInsert(t, "twice", s, []row{good, good}, api.ErrKey)
		refusesInsert(t, "the first error", s, []row{good, bad(1, num(0)), nil}, api.ErrKey)
	}
}

func TestP141InsertIntoFullStores(t *testing.T) {
	for _, columns := range [][]int{nil, {0}, {0, 1, 2, 3}} {
		l := numbered(257)
		s := laid(t, table(columns...), l[:256])
		refusesInsert(t, "one more", s, l[256:], api.ErrFull)
		refusesInsert(t, "one more that is there", s, l[5:6], api.ErrKey)
		refusesInsert(t, "one more that does not fit", s, []row{nil}, api.ErrCount)
		refusesInsert(t, "the second one more", laid(t, table(columns...), l[:255]), with(l, 256, 0, text("new"))[255:], api.ErrFull)
		next, err := exec.Insert(s, nil)
		stands(t, "none more", next, err, table(columns...), l[:256])
	}
}

func TestP141Delete(t *testing.T) {
	next := rolled(1411)
	for _, columns := range fewer() {
		x := table(columns...)
		all := someRows()
		for some := range 1 << len(all) {
			var left []row
			var keys []api.Value
			for i, r := range all {
				if some>>i&1 == 0 {
					left = append(left, r)
				} else {
					keys = append(keys, r[1])
				}
			}
			s, err := exec.Delete(laid(t, x, all), shuffled(keys, next))
			stands(t, fmt.Sprint(columns, ": some of few"), s, err, x, left)
		}
		s, err := laid(t, x, numbered(60)), api.OK
		for i, r := range shuffled(numbered(60), next) {
			if s, err = exec.Delete(s, []api.Value{r[1]}); err != api.OK || exec.Check(s) != api.OK {
				t.Fatal(columns, i, err, exec.Check(s))
			}
		}
		stands(t, fmt.Sprint(columns, ": one by one"), s, err, x, nil)
		var keys []api.Value
		for i := range 256 {
			keys = append(keys, num(3*i))
		}
		s, err = exec.Delete(laid(t, x, numbered(256)), keys[6:])
		stands(t, fmt.Sprint(columns, ": of a full one"), s, err, x, numbered(6))
	}
}

func TestP141DeleteErrors(t *testing.T) {
	for _, columns := range fewer() {
		s := laid(t, table(columns...), someRows())
		for what, keys := range map[string][]api.Value{
			"not there":             {num(1)},
			"of another kind":       {text("x")},
			"NULL":                  {null},
			"an unknown kind":       {{Kind: 4}},
			"behind one that is":    {num(2), num(3)},
			"ahead of one that is":  {num(3), num(2)},
			"twice":                 {num(2), num(2)},
			"all, and one again":    {num(-300), num(-1), num(0), num(2), num(255), num(256), num(257), num(0)},
			"a column's, not a key": {num(7)},
		} {
			if next, err := exec.Delete(s, keys); !isNone(next) || err != api.ErrNone {
				t.Errorf("%s: Delete = %+v, %d", what, next, err)
			}
		}
		none := laid(t, table(columns...), nil)
		if next, err := exec.Delete(none, []api.Value{num(0)}); !isNone(next) || err != api.ErrNone {
			t.Errorf("of no rows: Delete = %+v, %d", next, err)
		}
		next, err := exec.Delete(none, nil)
		stands(t, "no keys, no rows", next, err, table(columns...), nil)
	}
}

// A key is that of a row if rows has it so, also where it may not be.
func TestP141DeleteByKeysThatMayNotBe(t *testing.T) {
	for _, columns := range fewer() {
		s, err := exec.Delete(laid(t, table(columns...), someRows()), []api.Value{{Kind: 1, N: 2, Text: "x"}})
		stands(t, "2 with a text", s, err, table(columns...), slices.Delete(someRows(), 3, 4))
	}
}

// What was put in and taken out again leaves nothing behind, whatever the columns were then.
func TestP141InsertAndDeleteInTurns(t *testing.T) {
	for _, columns := range fewer() {
		x := table(columns...)
		s, err := laid(t, x, someRows()), api.OK
		for i := range 12 {
			s, err = exec.Delete(s, []api.Value{num(2)})
			stands(t, "gone", s, err, x, slices.Delete(someRows(), 3, 4))
			again := []row{{text(fmt.Sprint(i)), num(2), truth(i % 2), num(i)}, {null, num(2), null, null}}[i%2]
			s, err = exec.Insert(s, []row{again})
			stands(t, "there again", s, err, x, slices.Replace(someRows(), 3, 4, again))
		}
	}
}

func TestP141Index(t *testing.T) {
	for _, n := range []int{0, 1, 7, 60, 256} {
		l := numbered(n)
		if n == 7 {
			l = someRows()
		}
		s, err := exec.New(table())
		if n > 0 {
			s, err = exec.Insert(s, l)
		}
		x := table()
		for i, c := range []int{3, 0, 1, 0} {
			name := []string{"t", "a", "i_8", "_234567890123456"}[i] // the table's name, a column's, others
			s, err = exec.Index(s, name, c)
			x.Indexes = append(x.Indexes, catalog.Index{Name: name, Column: c})
			stands(t, fmt.Sprint(n, " rows, index ", i+1), s, err, x, l)
		}
	}
	// What follows keeps the new index, too.
	s, err := exec.Index(laid(t, table(2), someRows()), "new", 3)
	x := table(2)
	x.Indexes = append(x.Indexes, catalog.Index{Name: "new", Column: 3})
	more := row{null, num(1000), truth(1), num(3)}
	s, err = exec.Insert(s, []row{more})
	stands(t, "Insert", s, err, x, append(someRows(), more))
	s, err = exec.Delete(s, []api.Value{num(-300), num(-1)})
	stands(t, "Delete", s, err, x, append(someRows(), more)[2:])
	if l, err := exec.Scan(s, plan.Plan{Index: 2, Low: plan.Bound{Value: num(3), In: true}, High: plan.Bound{Open: true}}); err != api.OK || len(l) != 3 {
		t.Error("Scan:", l, err)
	}
}

func TestP141IndexErrors(t *testing.T) {
	badNames := []string{"", "I", "Wide", "select", "index", "1", "9a", "a b", "a-b", "a\x00", "é", "a_name_of_17_octs", strings.Repeat("a", 1000)}
	for _, columns := range fewer() {
		for _, l := range [][]row{nil, someRows(), numbered(256)} {
			s := laid(t, table(columns...), l)
			refuses := func(name string, column int, want api.Errno) {
				t.Helper()
				if next, err := exec.Index(s, name, column); !isNone(next) || err != want {
					t.Errorf("%v: Index(%q, %d) = %+v, %d, not %d", columns, name, column, next, err, want)
				}
			}
			for _, name := range badNames {
				for _, column := range []int{0, -1, 4} {
					refuses(name, column, api.ErrName)
				}
			}
			for _, column := range []int{-1, -1 << 63, 4, 5, 8, 1<<63 - 1} {
				refuses("new", column, api.ErrColumn)
				refuses("i", column, api.ErrColumn)
			}
			for _, x := range s.Table.Indexes {
				for column := range 4 {
					refuses(x.Name, column, api.ErrTwice)
				}
				refuses(strings.ToUpper(x.Name), 0, api.ErrName)
			}
			if len(columns) == 4 {
				refuses("new", 0, api.ErrFull)
			}
		}
	}
}
