package catalog_test

import (
	"fmt"
	"math"
	"reflect"
	"slices"
	"strings"
	"testing"

	"switchback/api"
	"switchback/catalog"
)

const (
	least    = math.MinInt64
	greatest = math.MaxInt64
)

const keywords = "create table index on drop insert into values update set delete from where select join group by order desc limit begin commit rollback primary key not null is and or true false int bool text count sum min max"

// wrongNames are texts that are no names.
func wrongNames() []string {
	l := []string{"", "1", "9a", "A", "aB", "a b", " a", "t.a", "a-b", "\x00", "a\x00", "\u00e9", "a;", "*", "'a'", strings.Repeat("a", 17), strings.Repeat("a", 70000)}
	return append(l, strings.Fields(keywords)...)
}

// someNames are names, at their edges.
func someNames() []string {
	return []string{"a", "z", "_", "_1", "z9", "a0", "selects", "abcdefghijklmnop", "________________"}
}

// rolled answers numbers below a bound, the same each time.
func rolled(seed uint64) func(n int) int {
	return func(n int) int {
		seed = seed*6364136223846793005 + 1442695040888963407
		return int(seed >> 33 % uint64(n))
	}
}

// table has n columns, c0 and so on, the last of them the key.
func table(name string, n int) catalog.Table {
	t := catalog.Table{Name: name, Key: n - 1}
	for i := range n {
		t.Columns = append(t.Columns, api.Column{Name: fmt.Sprint("c", i), Kind: i%3 + 1, NotNull: i == n-1 || i%2 == 1})
	}
	return t
}

// indexed is t with n indexes, whose names begin with its own.
func indexed(t catalog.Table, n int) catalog.Table {
	t = clone(t)
	for i := range n {
		t.Indexes = append(t.Indexes, catalog.Index{Name: fmt.Sprint(t.Name, "_", i), Column: i % len(t.Columns)})
	}
	return t
}

// full has n tables, each with as much as may be.
func full(n int) catalog.State {
	var s catalog.State
	for i := range n {
		s.Tables = append(s.Tables, indexed(table(fmt.Sprint("t", i), 8), 4))
	}
	return s
}

func state(l ...catalog.Table) catalog.State {
	return catalog.State{Tables: l}
}

// clone shares no list with t.
func clone(t catalog.Table) catalog.Table {
	t.Columns, t.Indexes = slices.Clone(t.Columns), slices.Clone(t.Indexes)
	return t
}

func cloneState(s catalog.State) catalog.State {
	s.Tables = slices.Clone(s.Tables)
	for i, t := range s.Tables {
		s.Tables[i] = clone(t)
	}
	return s
}

// changed is t, changed.
func changed(t catalog.Table, change func(t *catalog.Table)) catalog.Table {
	t = clone(t)
	change(&t)
	return t
}

// same tells whether two states are one, where nil and empty lists are.
func same(a, b catalog.State) bool {
	return slices.EqualFunc(a.Tables, b.Tables, sameTable)
}

func sameTable(a, b catalog.Table) bool {
	return a.Name == b.Name && a.Key == b.Key && slices.Equal(a.Columns, b.Columns) && slices.Equal(a.Indexes, b.Indexes)
}

func isZero(x any) bool { return reflect.ValueOf(x).IsZero() }

func create(name string, l ...api.Column) api.Stmt {
	return api.Stmt{Kind: 1, Table: name, Columns: l, Key: l[0].Name}
}

func column(name string) api.Column { return api.Column{Name: name, Kind: 1} }

func index(name, table, column string) api.Stmt {
	return api.Stmt{Kind: 2, Index: name, Table: table, Key: column}
}

func may(t *testing.T, what string, s catalog.State) {
	t.Helper()
	if e := catalog.Check(s); e != api.OK {
		t.Errorf("%s: Check = %d", what, e)
	}
	if n, e := catalog.Find(s, "nowhere"); n != 0 || e != api.ErrTable {
		t.Errorf("%s: Find of what is not there = %d, %d", what, n, e)
	}
	for i, x := range s.Tables {
		if n, e := catalog.Find(s, x.Name); n != i || e != api.OK {
			t.Errorf("%s: Find(%s) = %d, %d", what, x.Name, n, e)
		}
	}
}

// mayNot holds that all calls of a state tell first that it may not be.
func mayNot(t *testing.T, what string, s catalog.State) {
	t.Helper()
	if e := catalog.Check(s); e != api.ErrState {
		t.Errorf("%s: Check = %d", what, e)
	}
	names := []string{"", "nowhere", "t", "T"}
	for _, x := range s.Tables[:min(9, len(s.Tables))] {
		names = append(names, x.Name)
	}
	for _, name := range names {
		if n, e := catalog.Find(s, name); n != 0 || e != api.ErrState {
			t.Errorf("%s: Find(%.20q) = %d, %d", what, name, n, e)
		}
		if u, e := catalog.Drop(s, name); !isZero(u) || e != api.ErrState {
			t.Errorf("%s: Drop(%.20q) = %v, %d", what, name, u, e)
		}
		for _, x := range []api.Stmt{{}, create(name, column("a")), index("i", name, "a"), index("t0_0", name, "c0"), {Kind: 1}, {Kind: 2}, {Kind: 3, Table: name}} {
			u, e := catalog.Create(s, x)
			v, f := catalog.Add(s, x)
			if !isZero(u) || !isZero(v) || e != api.ErrState || f != api.ErrState {
				t.Errorf("%s: Create = %v, %d, Add = %v, %d", what, u, e, v, f)
			}
		}
	}
}

func tableMay(t *testing.T, what string, x catalog.Table) {
	t.Helper()
	may(t, what, state(x))
	l, e := catalog.Encode(x)
	if e != api.OK {
		t.Errorf("%s: Encode = %d", what, e)
	}
	if u, e := catalog.Decode(l); !sameTable(u, x) || e != api.OK {
		t.Errorf("%s: Decode of Encode = %v, %d", what, u, e)
	}
}

func tableMayNot(t *testing.T, what string, x catalog.Table) {
	t.Helper()
	mayNot(t, what, state(x))
	mayNot(t, what+", the first", state(x, table("zz", 1)))
	mayNot(t, what+", the last", state(table("_", 2), x))
	if l, e := catalog.Encode(x); len(l) != 0 || e != api.ErrState {
		t.Errorf("%s: Encode = %v, %d", what, l, e)
	}
	if u, e := catalog.Decode(written(x)); !isZero(u) || e != api.ErrState {
		t.Errorf("%s: Decode of what it would be = %v, %d", what, u, e)
	}
}

func TestP61CatalogsThatMayBe(t *testing.T) {
	may(t, "nothing", catalog.State{})
	may(t, "an empty list", catalog.State{Tables: []catalog.Table{}})
	for n := range 9 {
		may(t, fmt.Sprint(n, " full tables"), full(n))
	}
	for _, l := range [][]string{{"a", "b"}, {"a", "aa", "ab", "b"}, {"_", "a", "z"}, {"a", "a0", "a_", "aa"}, {"t", "t1", "t10", "t2"}} {
		var s catalog.State
		for _, name := range l {
			s.Tables = append(s.Tables, table(name, 1))
		}
		may(t, fmt.Sprint(l), s)
	}
	// A table, a column and an index may have one name, and tables columns of one.
	x := catalog.Table{Name: "a", Columns: []api.Column{{Name: "a", Kind: 1, NotNull: true}}, Indexes: []catalog.Index{{Name: "a"}}}
	y := changed(x, func(t *catalog.Table) { t.Name, t.Indexes[0].Name = "b", "b" })
	may(t, "one name for all", state(x, y))
}

func TestP61TablesThatMayBe(t *testing.T) {
	for n := 1; n <= 8; n++ {
		for m := range 5 {
			tableMay(t, fmt.Sprint(n, " columns, ", m, " indexes"), indexed(table("t", n), m))
		}
		for key := range n {
			tableMay(t, fmt.Sprint("the key is ", key), changed(table("t", n), func(t *catalog.Table) { t.Key, t.Columns[key].NotNull = key, true }))
		}
		for at := range n {
			tableMay(t, fmt.Sprint("an index of ", at), changed(table("t", n), func(t *catalog.Table) { t.Indexes = []catalog.Index{{Name: "i", Column: at}} }))
		}
	}
	for kind := 1; kind <= 3; kind++ {
		for _, at := range []int{0, 3, 7} {
			tableMay(t, fmt.Sprint("kind ", kind), changed(table("t", 8), func(t *catalog.Table) { t.Columns[at].Kind = kind }))
		}
	}
	for _, name := range someNames() {
		tableMay(t, "a table "+name, table(name, 2))
		tableMay(t, "a column "+name, changed(table("t", 2), func(t *catalog.Table) { t.Columns[0].Name = name }))
		tableMay(t, "an index "+name, changed(indexed(table("t", 2), 2), func(t *catalog.Table) { t.Indexes[1].Name = name }))
	}
	tableMay(t, "all its indexes of one column", changed(indexed(table("t", 2), 4), func(t *catalog.Table) {
		for i := range t.Indexes {
			t.Indexes[i].Column = 1
		}
	}))
	tableMay(t, "an empty list of indexes", changed(table("t", 2), func(t *catalog.Table) { t.Indexes = []catalog.Index{} }))
	tableMay(t, "all its columns NotNull", changed(table("t", 8), func(t *catalog.Table) {
		for i := range t.Columns {
			t.Columns[i].NotNull = true
		}
	}))
}

func TestP61TablesThatMayNotBe(t *testing.T) {
	tableMayNot(t, "nothing", catalog.Table{})
	tableMayNot(t, "no columns", catalog.Table{Name: "t"})
	for _, n := range []int{9, 10, 16, 17, 256, 70000} {
		x := table("t", n)
		tableMayNot(t, fmt.Sprint(n, " columns"), x)
		tableMayNot(t, fmt.Sprint(n, " columns, the key the first"), changed(x, func(t *catalog.Table) { t.Key, t.Columns[0].NotNull = 0, true }))
	}
	for _, n := range []int{5, 6, 16, 256, 70000} {
		tableMayNot(t, fmt.Sprint(n, " indexes"), indexed(table("t", 8), n))
	}
	for _, name := range wrongNames() {
		tableMayNot(t, "a table "+name, table(name, 2))
		for at := range 8 {
			tableMayNot(t, "a column "+name, changed(table("t", 8), func(t *catalog.Table) { t.Columns[at].Name = name }))
		}
		for at := range 4 {
			tableMayNot(t, "an index "+name, changed(indexed(table("t", 8), 4), func(t *catalog.Table) { t.Indexes[at].Name = name }))
		}
	}
	for _, kind := range []int{least, -1 << 32, -1, 0, 4, 5, 22, 1 << 32, 1<<32 + 1, greatest} {
		for at := range 8 {
			tableMayNot(t, fmt.Sprint("kind ", kind), changed(table("t", 8), func(t *catalog.Table) { t.Columns[at].Kind = kind }))
		}
	}
}

func TestP61NamesTwice(t *testing.T) {
	for i := range 8 {
		for j := range i {
			tableMayNot(t, fmt.Sprint("columns ", j, " and ", i), changed(table("t", 8), func(t *catalog.Table) { t.Columns[i].Name = t.Columns[j].Name }))
			s := full(8)
			s.Tables[i].Name = s.Tables[j].Name
			mayNot(t, fmt.Sprint("tables ", j, " and ", i), s)
		}
	}
	for i := range 4 {
		for j := range i {
			tableMayNot(t, fmt.Sprint("indexes ", j, " and ", i), changed(indexed(table("t", 8), 4), func(t *catalog.Table) { t.Indexes[i].Name = t.Indexes[j].Name }))
		}
	}
	// An index's name is there once in all tables.
	for i := range 32 {
		for j := range i {
			s := full(8)
			s.Tables[i/4].Indexes[i%4].Name = s.Tables[j/4].Indexes[j%4].Name
			mayNot(t, fmt.Sprint("indexes ", j, " and ", i, " of all"), s)
			if i/4 != j/4 {
				if _, e := catalog.Encode(s.Tables[i/4]); e != api.OK {
					t.Errorf("Encode of a table that may be by itself = %d", e)
				}
			}
		}
	}
}

func TestP61Keys(t *testing.T) {
	for _, key := range []int{least, -1 << 32, -8, -1, 8, 9, 1 << 32, greatest} {
		tableMayNot(t, fmt.Sprint("the key is ", key), changed(table("t", 8), func(t *catalog.Table) { t.Key = key }))
		tableMayNot(t, fmt.Sprint("an index of ", key), changed(indexed(table("t", 8), 4), func(t *catalog.Table) { t.Indexes[3].Column = key }))
		tableMayNot(t, fmt.Sprint("a first index of ", key), changed(indexed(table("t", 8), 4), func(t *catalog.Table) { t.Indexes[0].Column = key }))
	}
	for n := 1; n <= 8; n++ {
		tableMayNot(t, "the key is one too many", changed(table("t", n), func(t *catalog.Table) { t.Key = n }))
		tableMayNot(t, "an index of one too many", changed(indexed(table("t", n), 1), func(t *catalog.Table) { t.Indexes[0].Column = n }))
		for key := range n {
			tableMayNot(t, fmt.Sprint("the key ", key, " may be NULL"), changed(table("t", n), func(t *catalog.Table) {
				for i := range t.Columns {
					t.Columns[i].NotNull = i != key
				}
				t.Key = key
			}))
		}
	}
}

func TestP61TablesRise(t *testing.T) {
	for n := 2; n <= 8; n++ {
		for i := range n - 1 {
			s := full(n)
			s.Tables[i], s.Tables[i+1] = s.Tables[i+1], s.Tables[i]
			mayNot(t, fmt.Sprint("tables ", i, " and the next of ", n), s)
		}
		s := full(n)
		slices.Reverse(s.Tables)
		mayNot(t, fmt.Sprint(n, " tables that fall"), s)
	}
	for _, l := range [][2]string{{"b", "a"}, {"a", "a"}, {"ab", "a"}, {"a", "_"}, {"t2", "t10"}, {"aa", "a_"}, {"a_", "a0"}} {
		mayNot(t, fmt.Sprint(l), state(table(l[0], 1), table(l[1], 1)))
	}
}

func TestP61TooManyTables(t *testing.T) {
	for _, n := range []int{9, 10} {
		mayNot(t, fmt.Sprint(n, " tables"), full(n))
	}
	var s catalog.State
	for i := range 70000 {
		s.Tables = append(s.Tables, table(fmt.Sprintf("t%06d", i), 1))
	}
	mayNot(t, "tables without end", s)
}

func TestP61Find(t *testing.T) {
	s := full(8)
	for i := range 8 {
		if n, e := catalog.Find(s, fmt.Sprint("t", i)); n != i || e != api.OK {
			t.Errorf("Find(t%d) = %d, %d", i, n, e)
		}
	}
	for _, name := range append(wrongNames(), "s", "t", "t8", "t00", "T0", "u", "c0", "t0_0", "_") {
		for n := range 9 {
			if at, e := catalog.Find(full(n), name); at != 0 || e != api.ErrTable {
				t.Errorf("Find(%.20q) = %d, %d", name, at, e)
			}
		}
	}
}

func TestP61Column(t *testing.T) {
	x := table("t", 8)
	for i := range 8 {
		if n, e := catalog.Column(x, fmt.Sprint("c", i)); n != i || e != api.OK {
			t.Errorf("Column(c%d) = %d, %d", i, n, e)
		}
	}
	for _, name := range []string{"", "c", "c8", "C0", "c00", " c0", "t", "nowhere"} {
		if n, e := catalog.Column(x, name); n != 0 || e != api.ErrColumn {
			t.Errorf("Column(%q) = %d, %d", name, n, e)
		}
	}
	for _, name := range []string{"", "a", "table"} {
		if n, e := catalog.Column(catalog.Table{}, name); n != 0 || e != api.ErrColumn {
			t.Errorf("Column(%q) of no columns = %d, %d", name, n, e)
		}
	}
}

// Column is asked of any table, too of one that may not be.
func TestP61ColumnOfAnyTable(t *testing.T) {
	l := []api.Column{{Name: "b"}, {Name: "A", Kind: -1}, {Name: ""}, {Name: "a"}, {Name: "A"}, {Name: "table"}, {Name: "b"}, {Name: "a"}, {Name: ""}}
	for i := range 5000 {
		l = append(l, api.Column{Name: fmt.Sprint(i)})
	}
	x := catalog.Table{Name: "?", Columns: l, Key: -7, Indexes: make([]catalog.Index, 9)}
	for name, want := range map[string]int{"b": 0, "A": 1, "": 2, "a": 3, "table": 5, "0": 9, "4999": 5008} {
		if n, e := catalog.Column(x, name); n != want || e != api.OK {
			t.Errorf("Column(%q) = %d, %d, not %d", name, n, e, want)
		}
	}
	if n, e := catalog.Column(x, "5000"); n != 0 || e != api.ErrColumn {
		t.Errorf("Column(5000) = %d, %d", n, e)
	}
}
