package model_test

import (
	"fmt"
	"math"
	"reflect"
	"slices"
	"strings"
	"testing"

	"switchback/api"
	"switchback/catalog"
	"switchback/model"
	"switchback/parse"
	"switchback/syntax"
)

const (
	least    = math.MinInt64
	greatest = math.MaxInt64
)

var (
	null = api.Value{}
	no   = api.Value{Kind: 2}
	yes  = api.Value{Kind: 2, N: 1}
)

type row = []api.Value

func num(n int) api.Value { return api.Value{Kind: 1, N: n} }

func text(s string) api.Value { return api.Value{Kind: 3, Text: s} }

func lit(v api.Value) api.Expr { return api.Expr{Value: v} }

func op(n int, args ...api.Expr) api.Expr { return api.Expr{Op: n, Args: args} }

// stmt is the statement that a text is.
func stmt(s string) api.Stmt {
	x, _, err := parse.Parse(s)
	if err != api.OK {
		panic(fmt.Sprintf("%q is no statement: %d", s, err))
	}
	return x
}

// state is that of tables without rows.
func state(texts ...string) model.State {
	var s model.State
	for _, text := range texts {
		x := stmt(text)
		next, err := catalog.Create(s.Catalog, x)
		if x.Kind == 2 {
			next, err = catalog.Add(s.Catalog, x)
		} else {
			s.Rows = append(s.Rows, nil)
		}
		if err != api.OK {
			panic(fmt.Sprintf("%q: %d", text, err))
		}
		s.Catalog = next
	}
	return s
}

// place is that of a table of s.
func place(s model.State, name string) int {
	at := slices.IndexFunc(s.Catalog.Tables, func(t catalog.Table) bool { return t.Name == name })
	if at < 0 {
		panic(name)
	}
	return at
}

// rowsOf are the rows of a table of s.
func rowsOf(s model.State, name string) []row { return s.Rows[place(s, name)] }

// with is s, but for the rows of one table.
func with(s model.State, name string, l ...row) model.State {
	s.Rows = slices.Clone(s.Rows)
	s.Rows[place(s, name)] = l
	return s
}

// defined is s, but for its catalog.
func defined(s model.State, next catalog.State, err api.Errno) model.State {
	if err != api.OK {
		panic(fmt.Sprint("no catalog: ", err))
	}
	s.Catalog = next
	return s
}

// some has a table without rows, one whose key is its second column, and one of texts.
func some() model.State {
	s := state(
		"create table e (k int, primary key (k))",
		"create table t (n int, a int, b bool, c text, primary key (a))",
		"create table u (d text, f int not null, primary key (d))",
		"create index i on t (c)",
		"create index j on u (f)",
	)
	s = with(s, "t",
		row{num(10), num(1), yes, text("x")},
		row{num(20), num(2), no, text("y")},
		row{null, num(3), null, text("x")},
		row{num(40), num(4), yes, null},
		row{num(50), num(5), no, text("z")},
	)
	return with(s, "u", row{text("x"), num(7)}, row{text("y"), num(8)}, row{text("z"), num(9)})
}

// upTo has a table one of n rows: their keys are from 0 on, and behind them stands what of tells.
func upTo(n int, of func(i int) api.Value) model.State {
	s := state("create table one (a int, b int, primary key (a))")
	var l []row
	for i := range n {
		l = append(l, row{num(i), of(i)})
	}
	return with(s, "one", l...)
}

// joined are rows of so many in two tables, a and b.
func joined(m, n int) model.State {
	s := state("create table a (x int, primary key (x))", "create table b (y int, primary key (y))")
	var l, k []row
	for i := range m {
		l = append(l, row{num(i)})
	}
	for i := range n {
		k = append(k, row{num(i)})
	}
	return with(with(s, "a", l...), "b", k...)
}

// full has as many tables as may be, each with as many indexes, and so many rows.
func full(n int) model.State {
	var texts []string
	for i := range 8 {
		texts = append(texts, fmt.Sprintf("create table t%d (c0 int, c1 bool, c2 text, c3 int, c4 bool, c5 text, c6 int, c7 bool, primary key (c%d))", i, [...]int{0, 2, 3, 5}[i%4]))
		for j := range 4 {
			texts = append(texts, fmt.Sprintf("create index i%d_%d on t%d (c%d)", i, j, i, j))
		}
	}
	s := state(texts...)
	for at, t := range s.Catalog.Tables {
		for i := range n {
			r := row{num(i), yes, text("x"), num(i), no, text(""), null, null}
			if t.Columns[t.Key].Kind == 3 {
				r[t.Key] = text(fmt.Sprintf("%03d", i))
			}
			s.Rows[at] = append(s.Rows[at], r)
		}
	}
	return s
}

// same tells whether two states are one, where nil and empty lists are.
func same(a, b model.State) bool {
	tables := slices.EqualFunc(a.Catalog.Tables, b.Catalog.Tables, func(t, u catalog.Table) bool {
		return t.Name == u.Name && t.Key == u.Key && slices.Equal(t.Columns, u.Columns) && slices.Equal(t.Indexes, u.Indexes)
	})
	return tables && slices.EqualFunc(a.Rows, b.Rows, sameRows)
}

func sameRows(a, b []row) bool { return slices.EqualFunc(a, b, slices.Equal[row]) }

func sameResult(a, b api.Result) bool {
	return a.Err == b.Err && a.N == b.N && sameRows(a.Rows, b.Rows)
}

func sameResults(a, b []api.Result) bool { return slices.EqualFunc(a, b, sameResult) }

func isZero(x any) bool { return reflect.ValueOf(x).IsZero() }

// brief shows a state, or a result, as far as it is short.
func brief(x any) string {
	s := fmt.Sprint(x)
	if len(s) > 600 {
		return s[:600] + " .."
	}
	return s
}

// may holds that a state may be, whoever asks.
func may(t *testing.T, what string, s model.State) {
	t.Helper()
	if err := model.Check(s); err != api.OK {
		t.Errorf("%s: Check = %d", what, err)
	}
	runs(t, what, s, stmt("begin"), api.Result{}, s)
	if next, l, err := model.Texts(s, nil); !same(next, s) || len(l) != 0 || err != api.OK {
		t.Errorf("%s: Texts of none = %s, %v, %d", what, brief(next), l, err)
	}
}

// runs holds what a statement tells, and which state follows.
func runs(t *testing.T, what string, s model.State, x api.Stmt, want api.Result, left model.State) {
	t.Helper()
	next, told := model.Run(s, x)
	if !sameResult(told, want) {
		t.Errorf("%s: Run tells %s, not %s", what, brief(told), brief(want))
	}
	if !same(next, left) {
		t.Errorf("%s: Run leaves %s, not %s", what, brief(next), brief(left))
	}
}

// follows holds what a text tells, and which state follows, be it run as a statement, as a text, or as one of many.
func follows(t *testing.T, s model.State, x string, want api.Result, left model.State) {
	t.Helper()
	if len(x) <= api.MaxSource {
		runs(t, x, s, stmt(x), want, left)
	}
	next, told := model.Text(s, x)
	if !sameResult(told, want) || !same(next, left) {
		t.Errorf("%s: Text = %s, %s, not %s, %s", x, brief(next), brief(told), brief(left), brief(want))
	}
	next, all, err := model.Texts(s, []string{x})
	if !sameResults(all, []api.Result{want}) || err != api.OK || !same(next, left) {
		t.Errorf("%s: Texts = %s, %s, %d, not %s, %s", x, brief(next), brief(all), err, brief(left), brief(want))
	}
	if model.Check(next) != api.OK {
		t.Errorf("%s: what follows may not be", x)
	}
}

// tells holds that a text changes a state into left, and is about so many rows.
func tells(t *testing.T, s model.State, x string, n int, left model.State) {
	t.Helper()
	follows(t, s, x, api.Result{N: n}, left)
}

// leaves holds that a text is about so many rows, and leaves those of table t.
func leaves(t *testing.T, s model.State, x string, n int, l ...row) {
	t.Helper()
	tells(t, s, x, n, with(s, "t", l...))
}

// shows holds which rows a select tells.
func shows(t *testing.T, s model.State, x string, l ...row) {
	t.Helper()
	follows(t, s, x, api.Result{N: len(l), Rows: l}, s)
}

// refuses holds that a text has an error, and changes nothing.
func refuses(t *testing.T, s model.State, x string, want api.Errno) {
	t.Helper()
	follows(t, s, x, api.Result{Err: want}, s)
}

// refusesStmt holds that a statement has an error, and changes nothing.
func refusesStmt(t *testing.T, s model.State, x api.Stmt, want api.Errno) {
	t.Helper()
	runs(t, fmt.Sprintf("a statement of Kind %d, table %q", x.Kind, x.Table), s, x, api.Result{Err: want}, s)
}

// names are those of tables, columns and indexes that may be.
func names() []string {
	return []string{"a", "z", "_", "_1", "z9", "selects", strings.Repeat("a", 16)}
}

// wrongStmts are statements that may not be, of each Kind, by what is told of them.
func wrongStmts() map[api.Errno][]api.Stmt {
	one := lit(num(1))
	loop := make([]api.Expr, 1)
	loop[0] = op(2, loop...)
	loop[0].Args = loop
	deep := one
	for range 12 {
		deep = op(2, deep)
	}
	wide := one
	for range 6 {
		wide = op(4, wide, wide)
	}
	l := map[api.Errno][]api.Stmt{
		api.ErrKind: {{}, {Kind: -1}, {Kind: 11}, {Kind: least}, {Kind: greatest}, {Kind: 1 << 32, Table: "t"}, {Kind: 0, Table: "t"}},
		api.ErrState: {
			{Kind: 1}, {Kind: 1, Table: "T", Columns: []api.Column{{Name: "a", Kind: 1}}, Key: "a"}, {Kind: 1, Table: "t", Columns: make([]api.Column, 9), Key: "a"},
			{Kind: 2}, {Kind: 2, Index: "select", Table: "t", Key: "a"}, {Kind: 3}, {Kind: 3, Table: "t", Key: "a"}, {Kind: 3, Table: "t.a"},
			{Kind: 4, Table: "t"}, {Kind: 4, Table: "t", Rows: make([][]api.Expr, 1)}, {Kind: 4, Table: "t", Rows: make([][]api.Expr, 17)},
			{Kind: 5, Table: "t"}, {Kind: 5, Table: "t", Sets: make([]api.Set, 9)}, {Kind: 6}, {Kind: 6, Table: "t", Where: make([]api.Expr, 2)},
			{Kind: 7, Table: "t"}, {Kind: 7, Table: "t", Items: exprs(one), Limit: -2}, {Kind: 7, Table: "t", Items: exprs(one), Join: "u"},
			{Kind: 8, Table: "t"}, {Kind: 9, Limit: -1}, {Kind: 10, Items: exprs(one)},
		},
	}
	for _, x := range []struct {
		err api.Errno
		e   api.Expr
	}{{api.ErrDeep, deep}, {api.ErrDeep, loop[0]}, {api.ErrCount, wide}, {api.ErrState, op(23)}, {api.ErrState, op(4, one)}, {api.ErrState, lit(num(-1))}, {api.ErrState, lit(api.Value{Kind: 9})}} {
		l[x.err] = append(l[x.err],
			api.Stmt{Kind: 4, Table: "t", Rows: [][]api.Expr{{x.e}}},
			api.Stmt{Kind: 5, Table: "t", Sets: []api.Set{{Name: "a", Expr: x.e}}},
			api.Stmt{Kind: 5, Table: "t", Sets: []api.Set{{Name: "a", Expr: one}}, Where: exprs(x.e)},
			api.Stmt{Kind: 6, Table: "t", Where: exprs(x.e)},
			api.Stmt{Kind: 7, Table: "t", Items: exprs(x.e), Limit: -1},
			api.Stmt{Kind: 7, Table: "t", Items: exprs(one), Where: exprs(x.e), Limit: -1},
			api.Stmt{Kind: 7, Table: "t", Items: exprs(one), Join: "u", On: exprs(x.e), Limit: -1},
		)
	}
	return l
}

// exprs is a list of them.
func exprs(l ...api.Expr) []api.Expr { return l }

// printed is the text that a statement is.
func printed(x api.Stmt) string {
	s, err := syntax.Print(x)
	if err != api.OK {
		panic(fmt.Sprint(x, " may not be: ", err))
	}
	return s
}

// rolled answers numbers below a bound, the same each time.
func rolled(seed uint64) func(n int) int {
	return func(n int) int {
		seed = seed*6364136223846793005 + 1442695040888963407
		return int(seed >> 33 % uint64(n))
	}
}
