package catalog_test

import (
	"fmt"
	"slices"
	"strings"
	"testing"

	"switchback/api"
	"switchback/catalog"
)

func created(t *testing.T, s catalog.State, x api.Stmt) catalog.State {
	t.Helper()
	next, e := catalog.Create(s, x)
	if e != api.OK {
		t.Fatalf("Create(%v) = %d", x, e)
	}
	if e := catalog.Check(next); e != api.OK {
		t.Fatalf("Create(%v) made one that may not be", x)
	}
	return next
}

func added(t *testing.T, s catalog.State, x api.Stmt) catalog.State {
	t.Helper()
	next, e := catalog.Add(s, x)
	if e != api.OK {
		t.Fatalf("Add(%v) = %d", x, e)
	}
	if e := catalog.Check(next); e != api.OK {
		t.Fatalf("Add(%v) made one that may not be", x)
	}
	return next
}

func dropped(t *testing.T, s catalog.State, name string) catalog.State {
	t.Helper()
	next, e := catalog.Drop(s, name)
	if e != api.OK {
		t.Fatalf("Drop(%s) = %d", name, e)
	}
	if e := catalog.Check(next); e != api.OK {
		t.Fatalf("Drop(%s) made one that may not be", name)
	}
	return next
}

func refusesCreate(t *testing.T, what string, s catalog.State, x api.Stmt, want api.Errno) {
	t.Helper()
	if next, e := catalog.Create(s, x); !isZero(next) || e != want {
		t.Errorf("%s: Create = %v, %d, not %d", what, next, e, want)
	}
}

func refusesAdd(t *testing.T, what string, s catalog.State, x api.Stmt, want api.Errno) {
	t.Helper()
	if next, e := catalog.Add(s, x); !isZero(next) || e != want {
		t.Errorf("%s: Add = %v, %d, not %d", what, next, e, want)
	}
}

func refusesDrop(t *testing.T, what string, s catalog.State, name string, want api.Errno) {
	t.Helper()
	if next, e := catalog.Drop(s, name); !isZero(next) || e != want {
		t.Errorf("%s: Drop = %v, %d, not %d", what, next, e, want)
	}
}

// The chapter's example.
func TestP61CreateMakesItsKeyNotNull(t *testing.T) {
	s := created(t, catalog.State{}, create("t", column("a")))
	want := state(catalog.Table{Name: "t", Columns: []api.Column{{Name: "a", Kind: 1, NotNull: true}}})
	if !same(s, want) {
		t.Errorf("Create = %v", s)
	}
	for key := range 8 {
		for given := range 1 << 8 {
			var l []api.Column
			for i := range 8 {
				l = append(l, api.Column{Name: fmt.Sprint("c", i), Kind: (i+key)%3 + 1, NotNull: given>>i&1 == 1})
			}
			x := api.Stmt{Kind: 1, Table: "t", Columns: l, Key: fmt.Sprint("c", key)}
			want := catalog.Table{Name: "t", Columns: slices.Clone(l), Key: key}
			want.Columns[key].NotNull = true
			if s := created(t, catalog.State{}, x); !same(s, state(want)) {
				t.Errorf("Create(%v) = %v", x, s)
			}
		}
	}
}

func TestP61CreateKeepsTheOrderOfNames(t *testing.T) {
	names := []string{"_", "a", "a0", "a_", "aa", "b", "t10", "t2"}
	next := rolled(1)
	for range 400 {
		var s catalog.State
		left := slices.Clone(names)
		for len(left) > 0 {
			at := next(len(left))
			name := left[at]
			left = slices.Delete(left, at, at+1)
			s = created(t, s, create(name, column("of_"+name)))
		}
		for i, name := range names {
			if s.Tables[i].Name != name || s.Tables[i].Columns[0].Name != "of_"+name {
				t.Fatalf("at %d stands %v", i, s.Tables[i])
			}
		}
	}
}

// others are statements of no Kind that is asked for.
func others(kind int) []api.Stmt {
	l := []api.Stmt{
		{}, {Kind: -1}, {Kind: 11}, {Kind: least}, {Kind: greatest}, {Kind: kind + 1<<32},
		create("u", column("a")), index("i", "t0", "c0"), {Kind: 3, Table: "t0"},
		{Kind: 4, Table: "t0", Rows: [][]api.Expr{{{}}}}, {Kind: 5, Table: "t0", Sets: []api.Set{{Name: "c0"}}},
		{Kind: 6, Table: "t0"}, {Kind: 7, Table: "t0", Items: []api.Expr{{}}, Limit: -1}, {Kind: 8}, {Kind: 9}, {Kind: 10},
	}
	return slices.DeleteFunc(l, func(x api.Stmt) bool { return x.Kind == kind })
}

// spoils are changes after which a statement of Kind 1 or 2 may not be.
func spoils() []func(x *api.Stmt) {
	l := []func(x *api.Stmt){
		func(x *api.Stmt) { x.Rows = [][]api.Expr{{{}}} },
		func(x *api.Stmt) { x.Sets = []api.Set{{Name: "a"}} },
		func(x *api.Stmt) { x.Items = []api.Expr{{}} },
		func(x *api.Stmt) { x.Join = "u" },
		func(x *api.Stmt) { x.On = []api.Expr{{}} },
		func(x *api.Stmt) { x.Where = []api.Expr{{}} },
		func(x *api.Stmt) { x.Group = []api.Expr{{Op: 1, Name: "a"}} },
		func(x *api.Stmt) { x.Order = []api.Order{{N: 1}} },
		func(x *api.Stmt) { x.Limit = -1 },
		func(x *api.Stmt) { x.Limit = 1 },
	}
	for _, name := range wrongNames() {
		l = append(l, func(x *api.Stmt) { x.Table = name }, func(x *api.Stmt) { x.Key = name })
	}
	return l
}

func TestP61CreateOfWhatIsNone(t *testing.T) {
	for n := range 9 {
		for _, x := range others(1) {
			refusesCreate(t, fmt.Sprint("kind ", x.Kind), full(n), x, api.ErrArg)
		}
		for i, spoil := range spoils() {
			x := create("t0", column("a"), column("a"))
			spoil(&x)
			refusesCreate(t, fmt.Sprint("spoilt ", i), full(n), x, api.ErrArg)
		}
	}
	x := create("u", column("a"))
	x.Index = "i"
	refusesCreate(t, "with an index", catalog.State{}, x, api.ErrArg)
	for _, kind := range []int{least, -1, 0, 4, greatest} {
		refusesCreate(t, fmt.Sprint("a column of kind ", kind), catalog.State{}, create("u", api.Column{Name: "a", Kind: kind}), api.ErrArg)
	}
	for _, name := range wrongNames() {
		refusesCreate(t, "a column "+name, full(8), create("t0", column("a"), column(name)), api.ErrArg)
	}
	x = create("u", column("a"))
	x.Columns = nil
	refusesCreate(t, "no columns", catalog.State{}, x, api.ErrArg)
	refusesCreate(t, "nine columns", catalog.State{}, create("u", table("u", 9).Columns...), api.ErrArg)
	refusesCreate(t, "nine columns of one name", full(8), create("t0", slices.Repeat([]api.Column{column("a")}, 9)...), api.ErrArg)
	created(t, catalog.State{}, create("u", table("u", 8).Columns...))
}

// Each error of Create goes ahead of those behind it.
func TestP61CreateErrors(t *testing.T) {
	twice := []api.Column{column("a"), column("b"), column("a")}
	key := func(x api.Stmt, name string) api.Stmt {
		x.Key = name
		return x
	}
	for _, n := range []int{1, 7, 8} {
		s := full(n)
		for i := range n {
			name := fmt.Sprint("t", i)
			refusesCreate(t, "there", s, create(name, column("a")), api.ErrTwice)
			refusesCreate(t, "there, and columns twice", s, create(name, twice...), api.ErrTwice)
			refusesCreate(t, "there, and no such key", s, key(create(name, column("a")), "z"), api.ErrTwice)
		}
		refusesCreate(t, "columns twice", s, create("u", twice...), api.ErrTwice)
		refusesCreate(t, "columns twice, and no such key", s, key(create("u", twice...), "z"), api.ErrTwice)
		for _, name := range []string{"z", "u", "t0", "c0", "t0_0", "aa"} {
			refusesCreate(t, "no such key", s, key(create("u", column("a"), column("b")), name), api.ErrColumn)
		}
	}
	for _, name := range []string{"a", "t00", "u", "t8"} {
		refusesCreate(t, "full", full(8), create(name, column("a")), api.ErrFull)
		if s := created(t, full(7), create(name, column("a"))); len(s.Tables) != 8 {
			t.Errorf("the eighth table: %v", s)
		}
	}
	for i := range 8 {
		for j := range i {
			x := create("u", table("u", 8).Columns...)
			x.Columns[i].Name = x.Columns[j].Name
			refusesCreate(t, "columns twice", catalog.State{}, x, api.ErrTwice)
		}
	}
}

func TestP61AddOfWhatIsNone(t *testing.T) {
	for n := range 9 {
		for _, x := range others(2) {
			refusesAdd(t, fmt.Sprint("kind ", x.Kind), full(n), x, api.ErrArg)
		}
		for i, spoil := range spoils() {
			x := index("t0_0", "u", "z")
			spoil(&x)
			refusesAdd(t, fmt.Sprint("spoilt ", i), full(n), x, api.ErrArg)
		}
		for _, name := range wrongNames() {
			refusesAdd(t, "an index "+name, full(n), index(name, "t0", "c0"), api.ErrArg)
		}
		x := index("i", "t0", "c0")
		x.Columns = []api.Column{column("a")}
		refusesAdd(t, "with columns", full(n), x, api.ErrArg)
	}
}

// Each error of Add goes ahead of those behind it.
func TestP61AddErrors(t *testing.T) {
	s := full(8)
	for _, name := range []string{"u", "c0", "t0_0", "t", "t8", "t00"} {
		refusesAdd(t, "no such table", s, index("i", name, "c0"), api.ErrTable)
		refusesAdd(t, "no such table nor column", s, index("i", name, "z"), api.ErrTable)
		refusesAdd(t, "no such table, the index there", s, index("t0_0", name, "z"), api.ErrTable)
		refusesAdd(t, "no such table, nor any", catalog.State{}, index("i", name, "c0"), api.ErrTable)
	}
	for i := range 8 {
		name := fmt.Sprint("t", i)
		for _, column := range []string{"z", "c8", "t0", "t0_0", name} {
			refusesAdd(t, "no such column", s, index("i", name, column), api.ErrColumn)
			refusesAdd(t, "no such column, the index there", s, index("t0_0", name, column), api.ErrColumn)
		}
		for j := range 32 {
			refusesAdd(t, "there", s, index(fmt.Sprintf("t%d_%d", j/4, j%4), name, "c0"), api.ErrTwice)
		}
		refusesAdd(t, "full", s, index("i", name, "c0"), api.ErrFull)
	}
	// Where there is room, a name is there all the same.
	s.Tables[5].Indexes = s.Tables[5].Indexes[:3]
	for j := range 32 {
		if j != 5*4+3 {
			refusesAdd(t, "there", s, index(fmt.Sprintf("t%d_%d", j/4, j%4), "t5", "c0"), api.ErrTwice)
		}
	}
	added(t, s, index("t5_3", "t5", "c0"))
	// No other name is in its way.
	for _, name := range []string{"t0", "t5", "c0", "t5_", "a"} {
		added(t, s, index(name, "t5", "c7"))
	}
}

// An index that is added is the last one of its table, and nothing else changes.
func TestP61AddIsTheLast(t *testing.T) {
	for n := 1; n <= 8; n++ {
		for at := range n {
			for count := range 4 {
				for col := range 8 {
					s := full(n)
					s.Tables[at].Indexes = s.Tables[at].Indexes[:count]
					want := cloneState(s)
					want.Tables[at].Indexes = append(want.Tables[at].Indexes, catalog.Index{Name: "a", Column: col})
					if got := added(t, s, index("a", fmt.Sprint("t", at), fmt.Sprint("c", col))); !same(got, want) {
						t.Fatalf("Add = %v, not %v", got, want)
					}
				}
			}
		}
	}
}

func TestP61Drop(t *testing.T) {
	for n := range 9 {
		s := full(n)
		for i := range n {
			next := dropped(t, s, fmt.Sprint("t", i))
			want := cloneState(s)
			want.Tables = slices.Delete(want.Tables, i, i+1)
			if !same(next, want) {
				t.Errorf("Drop(t%d) = %v", i, next)
			}
			refusesDrop(t, "once more", next, fmt.Sprint("t", i), api.ErrTable)
		}
		for _, name := range append(wrongNames(), "t", "u", "t8", "c0", "t0_0", "t00", "T0") {
			refusesDrop(t, "not there", s, name, api.ErrTable)
		}
	}
}

// What was made is found; what was dropped is not, and may be made again, with the names of its indexes.
func TestP61MadeAndDropped(t *testing.T) {
	s := created(t, catalog.State{}, create("t", column("a"), column("b")))
	s = created(t, s, create("s", column("a")))
	s = added(t, s, index("i", "t", "b"))
	if n, e := catalog.Find(s, "t"); n != 1 || e != api.OK {
		t.Errorf("Find(t) = %d, %d", n, e)
	}
	refusesAdd(t, "there in another table", s, index("i", "s", "a"), api.ErrTwice)
	s = dropped(t, s, "t")
	if n, e := catalog.Find(s, "t"); n != 0 || e != api.ErrTable {
		t.Errorf("Find(t) = %d, %d", n, e)
	}
	refusesAdd(t, "of a table that is gone", s, index("j", "t", "b"), api.ErrTable)
	s = added(t, s, index("i", "s", "a"))
	s = created(t, s, create("t", column("b")))
	if x := s.Tables[1]; len(x.Indexes) != 0 || x.Columns[0].Name != "b" {
		t.Errorf("made again: %v", x)
	}
	s = dropped(t, dropped(t, s, "s"), "t")
	if len(s.Tables) != 0 {
		t.Errorf("all gone: %v", s)
	}
}

// A book is what a catalog ought to be: tables by name.
type book map[string]catalog.Table

func (b book) state() catalog.State {
	var s catalog.State
	for _, t := range b {
		s.Tables = append(s.Tables, t)
	}
	slices.SortFunc(s.Tables, func(a, b catalog.Table) int { return strings.Compare(a.Name, b.Name) })
	return s
}

func (b book) create(x api.Stmt) api.Errno {
	if _, is := b[x.Table]; is {
		return api.ErrTwice
	}
	places := map[string]int{}
	for i, c := range x.Columns {
		if _, is := places[c.Name]; is {
			return api.ErrTwice
		}
		places[c.Name] = i
	}
	key, is := places[x.Key]
	if !is {
		return api.ErrColumn
	}
	if len(b) == 8 {
		return api.ErrFull
	}
	l := slices.Clone(x.Columns)
	l[key].NotNull = true
	b[x.Table] = catalog.Table{Name: x.Table, Columns: l, Key: key}
	return api.OK
}

func (b book) add(x api.Stmt) api.Errno {
	t, is := b[x.Table]
	if !is {
		return api.ErrTable
	}
	at := -1
	for i, c := range t.Columns {
		if c.Name == x.Key {
			at = i
		}
	}
	if at < 0 {
		return api.ErrColumn
	}
	for _, u := range b {
		for _, i := range u.Indexes {
			if i.Name == x.Index {
				return api.ErrTwice
			}
		}
	}
	if len(t.Indexes) == 4 {
		return api.ErrFull
	}
	t.Indexes = append(slices.Clone(t.Indexes), catalog.Index{Name: x.Index, Column: at})
	b[x.Table] = t
	return api.OK
}

func (b book) drop(name string) api.Errno {
	if _, is := b[name]; !is {
		return api.ErrTable
	}
	delete(b, name)
	return api.OK
}

// P6.3, and that every way to a catalog makes what the chapter says.
func TestP63ByABook(t *testing.T) {
	next := rolled(2)
	name := func() string { return string(rune('a' + next(11))) }
	seen := map[api.Errno]int{}
	var s catalog.State
	b := book{}
	for i := range 60000 {
		if i%500 == 0 {
			s, b = catalog.State{}, book{}
		}
		was := cloneState(s)
		var got catalog.State
		var e, want api.Errno
		switch roll := next(20); {
		case roll < 8:
			x := create(name(), column(name()))
			for range next(3) {
				x.Columns = append(x.Columns, api.Column{Name: name(), Kind: 1 + next(3), NotNull: next(2) == 0})
			}
			if next(4) == 0 {
				x.Key = name()
			}
			got, e = catalog.Create(s, x)
			want = b.create(x)
		case roll < 18:
			x := index(strings.Repeat(name(), 1+next(3)), name(), name())
			got, e = catalog.Add(s, x)
			want = b.add(x)
		default:
			x := name()
			got, e = catalog.Drop(s, x)
			want = b.drop(x)
		}
		seen[want]++
		if e != want || e != api.OK && !isZero(got) || !same(s, was) {
			t.Fatalf("told %d, not %d: %v of %v", e, want, got, was)
		}
		if e == api.OK {
			s = got
		}
		if !same(s, b.state()) || catalog.Check(s) != api.OK {
			t.Fatalf("%v, not %v", s, b.state())
		}
	}
	for _, e := range []api.Errno{api.OK, api.ErrTwice, api.ErrColumn, api.ErrTable, api.ErrFull} {
		if seen[e] < 100 {
			t.Errorf("only %d told %d", seen[e], e)
		}
	}
}
