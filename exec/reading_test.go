package exec_test

import (
	"cmp"
	"fmt"
	"slices"
	"testing"

	"switchback/api"
	"switchback/btree"
	"switchback/catalog"
	"switchback/check"
	"switchback/eval"
	"switchback/exec"
	"switchback/keycode"
	"switchback/plan"
	"switchback/query"
	"switchback/rows"
	"switchback/value"
)

// A roller rolls tables, rows and conditions.
type roller struct {
	next func(n int) int
}

func (r roller) value(kind int) api.Value {
	switch kind {
	case 1:
		return num([]int{-257, -256, -1, 0, 1, 2, 3, 255, 256, 1 << 40}[r.next(10)])
	case 2:
		return truth(r.next(2))
	case 3:
		return text([]string{"", "\x00", "\x01", "a", "a\x00", "ab", "b", "\xff"}[r.next(8)])
	}
	return null
}

func (r roller) table() catalog.Table {
	t := catalog.Table{Name: "t"}
	for i := range 1 + r.next(4) {
		t.Columns = append(t.Columns, api.Column{Name: string(rune('a' + i)), Kind: 1 + r.next(3), NotNull: r.next(3) == 0})
	}
	t.Key = r.next(len(t.Columns))
	t.Columns[t.Key].NotNull = true
	for i := range r.next(5) {
		t.Indexes = append(t.Indexes, catalog.Index{Name: string(rune('i' + i)), Column: r.next(len(t.Columns))})
	}
	return t
}

func (r roller) row(t catalog.Table) row {
	var l row
	for _, c := range t.Columns {
		v := r.value(c.Kind)
		if !c.NotNull && r.next(4) == 0 {
			v = null
		}
		l = append(l, v)
	}
	return l
}

// rows are some of t, by key.
func (r roller) rows(t catalog.Table) []row {
	var l []row
	for range r.next(14) {
		if next, err := rows.Insert(t, l, []row{r.row(t)}); err == api.OK {
			l = next
		}
	}
	return l
}

func (r roller) comparison(t catalog.Table) api.Expr {
	place := r.next(len(t.Columns))
	v := r.value(t.Columns[place].Kind)
	if v.Kind == 1 && v.N < 0 {
		v.N = -v.N // a literal is no number below 0
	}
	if r.next(20) == 0 {
		v = null
	}
	e := op([]int{8, 8, 9, 10, 11, 12, 13}[r.next(7)], api.Expr{Op: 1, Name: t.Columns[place].Name}, lit(v))
	if r.next(2) == 0 {
		slices.Reverse(e.Args)
	}
	return e
}

// condition is one as parse makes it: columns have names.
func (r roller) condition(t catalog.Table, most int) api.Expr {
	if most == 0 {
		return r.comparison(t)
	}
	column := api.Expr{Op: 1, Name: t.Columns[r.next(len(t.Columns))].Name}
	switch n := r.next(20); {
	case n < 11:
		return op(14, r.condition(t, most-1), r.condition(t, most-1))
	case n < 14:
		return op(15, r.condition(t, most-1), r.condition(t, most-1))
	case n == 14:
		return op(3, r.condition(t, most-1))
	case n == 15:
		return op(16+r.next(2), column)
	case n == 16:
		return column
	case n == 17 && r.next(3) == 0:
		return op(8, op(4+r.next(4), column, lit(num(r.next(2)))), lit(num(1)))
	}
	return r.comparison(t)
}

// readCheck reads the chapter once more: may s be?
func readCheck(s exec.Store) bool {
	if _, err := catalog.Encode(s.Table); err != api.OK || len(s.Side) != len(s.Table.Indexes) {
		return false
	}
	main, err := btree.Range(s.Main, "", "")
	if err != api.OK || len(main) > 256 {
		return false
	}
	wanted := make([]map[string]string, len(s.Side))
	for i := range wanted {
		wanted[i] = map[string]string{}
	}
	for _, p := range main {
		r, err := keycode.Decode(p.Value)
		if err != api.OK || rows.Fits(s.Table, r) != api.OK {
			return false
		}
		if k, err := keycode.Decode(p.Key); err != api.OK || !slices.Equal(k, row{r[s.Table.Key]}) {
			return false
		}
		for i, x := range s.Table.Indexes {
			of, _ := keycode.Encode(row{r[x.Column]})
			wanted[i][of+p.Key] = ""
		}
	}
	for i, side := range s.Side {
		l, err := btree.Range(side, "", "")
		if err != api.OK || len(l) != len(wanted[i]) {
			return false
		}
		for _, p := range l {
			if v, is := wanted[i][p.Key]; !is || p.Value != v {
				return false
			}
		}
	}
	return true
}

// bent is s with one thing in it changed.
func (r roller) bent(t *testing.T, s exec.Store, l []row) exec.Store {
	t.Helper()
	x := catalog.Table{Name: s.Table.Name, Key: s.Table.Key, Columns: slices.Clone(s.Table.Columns), Indexes: slices.Clone(s.Table.Indexes)}
	s.Table, s.Side = x, slices.Clone(s.Side)
	all := append([]btree.State{s.Main}, s.Side...)
	c, at := r.next(len(x.Columns)), r.next(len(all))
	put := func(p api.Pair) {
		all[at], _ = btree.Put(all[at], p.Key, p.Value)
	}
	switch r.next(12) {
	case 0:
		x.Columns[c].Kind = r.next(5)
	case 1:
		x.Columns[c].NotNull = !x.Columns[c].NotNull
	case 2:
		s.Table.Key = r.next(len(x.Columns)+2) - 1
	case 3:
		if len(x.Indexes) > 0 {
			x.Indexes[r.next(len(x.Indexes))].Column = r.next(len(x.Columns)+2) - 1
		}
	case 4:
		s.Table.Indexes = x.Indexes[:r.next(len(x.Indexes)+1)]
	case 5:
		all = append(all, all[r.next(len(all))])
	case 6:
		other := r.next(len(all))
		all[at], all[other] = all[other], all[at]
	case 7, 8:
		if old := pairs(t, "bent", all[at]); len(old) > 0 {
			all[at], _, _ = btree.Delete(all[at], old[r.next(len(old))].Key)
		}
		if r.next(2) == 0 {
			put(pairsOf(t, s.Table, at, []row{r.row(x)})[0])
		}
	case 9:
		put(pairsOf(t, s.Table, at, []row{r.row(x)})[0])
	case 10:
		if len(l) > 0 {
			one := slices.Clone(l[r.next(len(l))])
			one[c] = r.value(r.next(4))
			put(api.Pair{Key: keycodeOf(t, one[s.Table.Key]), Value: keycodeOf(t, one...)})
		}
	case 11:
		all[at].Root += r.next(3) - 1
	}
	s.Main, s.Side = all[0], all[1:]
	return s
}

func TestP141StoresAreReadOnceMore(t *testing.T) {
	r := roller{rolled(1410)}
	told := map[bool]int{}
	for range 20000 {
		x := r.table()
		l := r.rows(x)
		s := laid(t, x, l)
		for range 1 + r.next(2) {
			s = r.bent(t, s, l)
			if s.Table.Key < 0 || s.Table.Key >= len(x.Columns) || len(s.Side) != len(s.Table.Indexes) || slices.ContainsFunc(s.Table.Indexes, func(x catalog.Index) bool { return x.Column < 0 || x.Column >= len(s.Table.Columns) }) || exec.Check(s) != api.OK {
				break // what is bent once more is a store that may be
			}
		}
		want := readCheck(s)
		if is := exec.Check(s) == api.OK; is != want {
			t.Fatalf("Check(%+v): %t", s, is)
		}
		told[want]++
	}
	if told[true] < 2000 || told[false] < 2000 {
		t.Error("told:", told)
	}
}

// Stores on their way: what each call tells is held against lists of rows.
func TestP141WaysOfStores(t *testing.T) {
	r := roller{rolled(1412)}
	met := map[string]int{}
	for range 400 {
		x := r.table()
		s, err := exec.New(x)
		var l []row
		stands(t, "New", s, err, x, l)
		for range 12 {
			switch r.next(5) {
			case 0, 1:
				var given []row
				for range r.next(5) {
					given = append(given, r.row(x))
				}
				if r.next(8) == 0 {
					given = append(given, with([]row{r.row(x)}, 0, r.next(len(x.Columns)), r.value(r.next(4)))[0])
				}
				want, wanted := rows.Insert(x, l, given)
				next, err := exec.Insert(s, given)
				met[fmt.Sprint("Insert ", wanted)]++
				if wanted != api.OK {
					refusesInsert(t, "Insert", s, given, wanted)
					continue
				}
				s, l = next, want
				stands(t, "Insert", s, err, x, l)
			case 2, 3:
				var keys []api.Value
				for range r.next(4) {
					if len(l) > 0 && r.next(6) > 0 {
						keys = append(keys, l[r.next(len(l))][x.Key])
					} else {
						keys = append(keys, r.value(x.Columns[x.Key].Kind))
					}
				}
				want, wanted := rows.Delete(x, l, keys)
				next, err := exec.Delete(s, keys)
				met[fmt.Sprint("Delete ", wanted)]++
				if wanted != api.OK {
					if !isNone(next) || err != wanted {
						t.Fatalf("Delete: %d, not %d", err, wanted)
					}
					continue
				}
				s, l = next, want
				stands(t, "Delete", s, err, x, l)
			case 4:
				name, column := []string{"i", "j", "k", "new", "x", "I", "", "from"}[r.next(8)], r.next(len(x.Columns)+2)-1
				wanted := readIndex(x, name, column)
				next, err := exec.Index(s, name, column)
				met[fmt.Sprint("Index ", wanted)]++
				if wanted != api.OK {
					if !isNone(next) || err != wanted {
						t.Fatalf("Index(%q, %d): %d, not %d", name, column, err, wanted)
					}
					continue
				}
				s, x.Indexes = next, append(slices.Clone(x.Indexes), catalog.Index{Name: name, Column: column})
				stands(t, "Index", s, err, x, l)
			}
		}
	}
	for _, what := range []string{"Insert 0", "Insert 87", "Insert 81", "Delete 0", "Delete 71", "Index 0", "Index 31", "Index 94", "Index 6", "Index 51"} {
		if met[what] < 20 {
			t.Error("too few:", what, met)
		}
	}
}

func readIndex(x catalog.Table, name string, column int) api.Errno {
	isThere := slices.ContainsFunc(x.Indexes, func(i catalog.Index) bool { return i.Name == name })
	switch {
	case name == "" || name == "I" || name == "from":
		return api.ErrName
	case column == -1 || column == len(x.Columns):
		return api.ErrColumn
	case isThere:
		return api.ErrTwice
	case len(x.Indexes) == 4:
		return api.ErrFull
	}
	return api.OK
}

// indexed are t with each list of indexes of up to two columns, some of more.
func (r roller) indexed(t catalog.Table) []catalog.Table {
	var l []catalog.Table
	put := func(columns ...int) {
		x := t
		x.Indexes = nil
		for i, c := range columns {
			x.Indexes = append(x.Indexes, catalog.Index{Name: string(rune('i' + i)), Column: c})
		}
		l = append(l, x)
	}
	put()
	for c := range t.Columns {
		put(c)
		for d := range t.Columns {
			put(c, d)
		}
	}
	put(r.next(len(t.Columns)), r.next(len(t.Columns)), r.next(len(t.Columns)))
	put(r.next(len(t.Columns)), r.next(len(t.Columns)), r.next(len(t.Columns)), r.next(len(t.Columns)))
	return l
}

func TestP143WhereTellsWhatAFilterTells(t *testing.T) {
	r := roller{rolled(143)}
	met := map[string]int{}
	for range 6000 {
		x := r.table()
		l := r.rows(x)
		e, kind, err := check.Expr([]catalog.Table{x}, r.condition(x, r.next(5)), false)
		if err != api.OK || kind != 2 {
			met["no condition"]++
			continue
		}
		want, wanted := query.Filter(l, []api.Expr{e})
		for _, x := range r.indexed(x) {
			s := laid(t, x, l)
			got, err := exec.Where(s, []api.Expr{e})
			if err != wanted || !sameRows(got, want) {
				t.Fatalf("Where(%+v, %+v) = %s, %d, not %s, %d", s, e, brief(got), err, brief(want), wanted)
			}
			p, _ := plan.Choose(x, []api.Expr{e})
			met[fmt.Sprint("index ", p.Index, ", empty: ", p.Empty)]++
		}
		met[fmt.Sprint("error ", wanted)]++
		met[fmt.Sprint("rows: ", len(want) > 0)]++
	}
	for what, n := range map[string]int{
		"index -1, empty: false": 500, "index 0, empty: false": 500, "index 1, empty: false": 500, "index 2, empty: false": 300, "index 3, empty: false": 20, "index 4, empty: false": 3,
		"index 0, empty: true": 50, "index 1, empty: true": 50, "error 85": 3, "rows: true": 300, "rows: false": 300,
	} {
		if met[what] < n {
			t.Error("too few:", what, met)
		}
	}
}

// Of any condition Where tells what the chapter's words tell: a filter of the rows within the plan, by key.
func TestP142WhereIsReadOnceMore(t *testing.T) {
	r := roller{rolled(1422)}
	met := map[string]int{}
	for range 30000 {
		x := r.table()
		l := r.rows(x)
		e := r.resolved(x, r.condition(x, r.next(4)))
		var want []row
		p, wanted := plan.Choose(x, []api.Expr{e})
		if wanted == api.OK && p.Index >= 0 {
			_, _, wanted = plan.Keys(p)
		}
		if wanted == api.OK {
			within := readScan(exec.Store{Table: x}, l, p)
			slices.SortFunc(within, func(a, b row) int { return value.Order(a[x.Key], b[x.Key]) })
			for _, one := range within {
				is, err := eval.True(e, one)
				if wanted = cmp.Or(wanted, err); is {
					want = append(want, one)
				}
			}
		}
		if wanted != api.OK {
			want = nil
		}
		s := laid(t, x, l)
		if got, err := exec.Where(s, []api.Expr{e}); err != wanted || !sameRows(got, want) {
			t.Fatalf("Where(%+v, %+v) = %s, %d, not %s, %d", s, e, brief(got), err, brief(want), wanted)
		}
		met[fmt.Sprint("error ", wanted)]++
	}
	for what, n := range map[string]int{"error 0": 5000, "error 9": 10, "error 81": 300, "error 94": 100, "error 1": 100, "error 3": 100, "error 85": 3} {
		if met[what] < n {
			t.Error("too few:", what, met)
		}
	}
}

// resolved is e with places instead of names; but some of its parts may be of other kinds than check would have them, or nothing at all.
func (r roller) resolved(t catalog.Table, e api.Expr) api.Expr {
	if e.Op == 1 {
		e = col(slices.IndexFunc(t.Columns, func(c api.Column) bool { return c.Name == e.Name }))
	}
	switch r.next(80) {
	case 0:
		return col(r.next(6) - 1)
	case 1:
		return lit([]api.Value{num(1), text("a"), {Kind: 4}, {Kind: 1, N: 1, Text: "x"}, {Kind: 2, N: 2}}[r.next(5)])
	case 2:
		return api.Expr{Op: 18 + r.next(7)}
	case 3:
		return api.Expr{Op: r.next(18), Args: make([]api.Expr, r.next(4))}
	}
	var args []api.Expr
	for _, a := range e.Args {
		args = append(args, r.resolved(t, a))
	}
	e.Args = args
	return e
}
