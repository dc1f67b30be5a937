package model_test

import (
	"fmt"
	"slices"
	"strings"
	"testing"

	"switchback/api"
	"switchback/catalog"
	"switchback/model"
)

// mayNot holds that a state may not be, and that all calls tell that ahead of whatever is wrong besides.
func mayNot(t *testing.T, what string, s model.State) {
	t.Helper()
	if err := model.Check(s); err != api.ErrState {
		t.Errorf("%s: Check = %d", what, err)
	}
	want := api.Result{Err: api.ErrState}
	statements := []api.Stmt{stmt("begin"), stmt("select 1 from t"), stmt("select a from nowhere"), stmt("drop table t"), stmt("insert into t values (1 / 0)"), {}, {Kind: 4}, {Kind: 11}}
	for _, x := range statements {
		if next, told := model.Run(s, x); !isZero(next) || !sameResult(told, want) || len(told.Rows) != 0 {
			t.Errorf("%s: Run of %v = %s, %v", what, x, brief(next), told)
		}
	}
	texts := []string{"begin", "select 1 from t", "create table z (a int, primary key (a))", "", "no statement", "'", strings.Repeat(" ", 2049)}
	for _, x := range texts {
		if next, told := model.Text(s, x); !isZero(next) || !sameResult(told, want) || len(told.Rows) != 0 {
			t.Errorf("%s: Text of %.20q = %s, %v", what, x, brief(next), told)
		}
	}
	for _, l := range [][]string{nil, {}, texts, make([]string, 4096), make([]string, 4097)} {
		if next, all, err := model.Texts(s, l); !isZero(next) || len(all) != 0 || err != api.ErrState {
			t.Errorf("%s: Texts of %d = %s, %v, %d", what, len(l), brief(next), all, err)
		}
	}
}

// edited is s, changed: in memory of its own.
func edited(s model.State, edit func(s *model.State)) model.State {
	s = given(s)
	edit(&s)
	return s
}

func TestP111StatesThatMayBe(t *testing.T) {
	may(t, "nothing", model.State{})
	may(t, "empty lists", model.State{Catalog: catalog.State{Tables: []catalog.Table{}}, Rows: [][][]api.Value{}})
	may(t, "some", some())
	may(t, "an empty list of rows", with(some(), "u", []row{}...))
	for _, n := range []int{0, 1, 2, 255, 256} {
		may(t, fmt.Sprint("as much as may be, of ", n, " rows"), full(n))
	}
	for _, name := range names() {
		s := state("create table " + name + " (" + name + " int, primary key (" + name + "))")
		may(t, name, with(s, name, row{num(least)}, row{num(greatest)}))
	}
	may(t, "texts that are long", with(some(), "u", row{text(""), num(0)}, row{text(strings.Repeat("\xff", 64)), num(least)}))
}

func TestP111CatalogsThatMayNotBe(t *testing.T) {
	for what, edit := range map[string]func(c *catalog.State){
		"a name":                 func(c *catalog.State) { c.Tables[1].Name = "Q" },
		"a keyword":              func(c *catalog.State) { c.Tables[1].Name = "select" },
		"no name":                func(c *catalog.State) { c.Tables[0].Name = "" },
		"a column's name":        func(c *catalog.State) { c.Tables[2].Columns[1].Name = "1" },
		"a column's kind":        func(c *catalog.State) { c.Tables[0].Columns[0].Kind = 4 },
		"two columns of a name":  func(c *catalog.State) { c.Tables[2].Columns[1].Name = "d" },
		"a key":                  func(c *catalog.State) { c.Tables[0].Key = 1 },
		"a key below 0":          func(c *catalog.State) { c.Tables[0].Key = -1 },
		"a key that may be NULL": func(c *catalog.State) { c.Tables[0].Columns[0].NotNull = false },
		"an index's place":       func(c *catalog.State) { c.Tables[1].Indexes[0].Column = 4 },
		"an index's name":        func(c *catalog.State) { c.Tables[1].Indexes[0].Name = "I" },
		"two indexes of a name":  func(c *catalog.State) { c.Tables[2].Indexes[0].Name = "i" },
		"one name twice":         func(c *catalog.State) { c.Tables[1].Name = "e" },
		"tables that fall":       func(c *catalog.State) { c.Tables[0].Name = "tt" },
		"the last one ahead":     func(c *catalog.State) { c.Tables[2].Name = "d" },
	} {
		mayNot(t, what, edited(some(), func(s *model.State) { edit(&s.Catalog) }))
		mayNot(t, what+", without rows", edited(some(), func(s *model.State) {
			edit(&s.Catalog)
			s.Rows = make([][][]api.Value, 3)
		}))
	}
	nine := full(1)
	nine.Catalog.Tables = append(nine.Catalog.Tables, nine.Catalog.Tables[0])
	nine.Catalog.Tables[8].Name, nine.Catalog.Tables[8].Indexes = "t8", nil
	nine.Rows = append(nine.Rows, nil)
	mayNot(t, "nine tables", nine)
	mayNot(t, "a table of nothing", model.State{Catalog: catalog.State{Tables: make([]catalog.Table, 1)}, Rows: make([][][]api.Value, 1)})
}

func TestP111AsManyListsAsTables(t *testing.T) {
	mayNot(t, "a list of no table", model.State{Rows: make([][][]api.Value, 1)})
	mayNot(t, "many of no table", model.State{Rows: make([][][]api.Value, 70000)})
	for n := range 8 {
		if n != 3 {
			s := some()
			s.Rows = make([][][]api.Value, n)
			mayNot(t, fmt.Sprint(n, " lists of 3 tables"), s)
			s.Rows = append(slices.Clone(some().Rows), make([][][]api.Value, 5)...)[:n]
			mayNot(t, fmt.Sprint(n, " lists of 3 tables, with rows"), s)
		}
	}
}

// What is wrong with the rows of a table, be it the first or the last one, is told as one error.
func TestP111RowsThatMayNotBe(t *testing.T) {
	good := row{num(1), yes, text("x"), num(4), no, text(""), null, null}
	put := func(at int, v api.Value) row {
		r := slices.Clone(good)
		r[at] = v
		return r
	}
	for what, l := range map[string][]row{
		"a row of nothing":       {nil},
		"a row too short":        {good[:7]},
		"a row too long":         {append(slices.Clone(good), null)},
		"a kind that is none":    {put(6, api.Value{Kind: 4})},
		"a NULL of a number":     {put(6, api.Value{N: 1})},
		"a truth of 2":           {put(7, api.Value{Kind: 2, N: 2})},
		"a text that is long":    {put(5, text(strings.Repeat("a", 65)))},
		"a key that is NULL":     {put(0, null)},
		"a key of another kind":  {put(0, text("a"))},
		"a value of another":     {put(7, num(1))},
		"a text for a number":    {put(3, text("4"))},
		"one key twice":          {good, good},
		"keys that fall":         {put(0, num(2)), put(0, num(1))},
		"the last one ahead":     {put(0, num(1)), put(0, num(2)), put(0, num(3)), put(0, num(0))},
		"a second that is wrong": {put(0, num(1)), put(0, num(2))[:1]},
	} {
		for at := range 8 {
			s := full(3)
			s.Catalog.Tables[at].Key, s.Catalog.Tables[at].Columns[0].NotNull = 0, true
			may(t, "what it ought to be", s)
			s.Rows[at] = l
			mayNot(t, fmt.Sprint(what, ", in table ", at), s)
		}
	}
	strict := edited(some(), func(s *model.State) { s.Rows[2][1][1] = null })
	mayNot(t, "NULL where none may be", strict)
	for _, n := range []int{257, 258, 512, 4096} {
		for at := range 8 {
			s := full(0)
			s.Rows[at] = full(n).Rows[at]
			mayNot(t, fmt.Sprint(n, " rows"), s)
		}
	}
	exchanged := some()
	exchanged.Rows = [][][]api.Value{exchanged.Rows[0], exchanged.Rows[2], exchanged.Rows[1]}
	mayNot(t, "another table's rows", exchanged)
}
