package check_test

import (
	"fmt"
	"math"
	"reflect"
	"slices"
	"strings"
	"testing"

	"switchback/api"
	"switchback/catalog"
	"switchback/check"
	"switchback/parse"
	"switchback/syntax"
)

const (
	least    = math.MinInt64
	greatest = math.MaxInt64
)

const (
	neg = iota + 2
	not
	add
	sub
	mul
	div
	equal
	unlike
	below
	atMost
	above
	atLeast
	and
	or
	isNull
	isNotNull
	countAll
	count
	sum
	minOf
	maxOf
)

// rolled answers numbers below a bound, the same each time.
func rolled(seed uint64) func(n int) int {
	return func(n int) int {
		seed = seed*6364136223846793005 + 1442695040888963407
		return int(seed >> 33 % uint64(n))
	}
}

func lit(v api.Value) api.Expr { return api.Expr{Value: v} }

func num(n int) api.Expr { return lit(api.Value{Kind: 1, N: n}) }

func col(name string) api.Expr { return api.Expr{Op: 1, Name: name} }

func colOf(table, name string) api.Expr { return api.Expr{Op: 1, Table: table, Name: name} }

func op(n int, args ...api.Expr) api.Expr { return api.Expr{Op: n, Args: args} }

// at is a resolved column.
func at(place int) api.Expr { return api.Expr{Op: 1, Value: api.Value{Kind: 1, N: place}} }

// expr is the expression that a text is.
func expr(s string) api.Expr {
	e, _, err := parse.Expr(s)
	if err != api.OK {
		panic(fmt.Sprintf("%q is no expression: %d", s, err))
	}
	return e
}

// stmt is the statement that a text is.
func stmt(s string) api.Stmt {
	x, _, err := parse.Parse(s)
	if err != api.OK {
		panic(fmt.Sprintf("%q is no statement: %d", s, err))
	}
	return x
}

// state is the catalog that statements make.
func state(texts ...string) catalog.State {
	var s catalog.State
	for _, text := range texts {
		x := stmt(text)
		next, err := catalog.Create(s, x)
		if x.Kind == 2 {
			next, err = catalog.Add(s, x)
		}
		if err != api.OK {
			panic(fmt.Sprintf("%q: %d", text, err))
		}
		s = next
	}
	return s
}

// some is a catalog: t is its third table, u its fourth, so that no place is one by chance.
func some() catalog.State {
	return state(
		"create table a (t int, u bool, primary key (t))",
		"create table one (k text, primary key (k))",
		"create table t (a int, b bool, c text, n int not null, primary key (a))",
		"create table u (d text, a text, e bool, f int, primary key (d))",
		"create table wide (k0 int, k1 bool, k2 text, k3 int, k4 bool, k5 text, k6 int, k7 bool, primary key (k5))",
		"create index i on t (c)",
	)
}

// tables are those of some, by their names.
func tables(names ...string) []catalog.Table {
	var l []catalog.Table
	for _, name := range names {
		n, err := catalog.Find(some(), name)
		if err != api.OK {
			panic(name)
		}
		l = append(l, some().Tables[n])
	}
	return l
}

// same tells whether two expressions are one, where nil and empty lists are.
func same(a, b api.Expr) bool {
	return a.Op == b.Op && a.Value == b.Value && a.Table == b.Table && a.Name == b.Name && slices.EqualFunc(a.Args, b.Args, same)
}

func isZero(x any) bool { return reflect.ValueOf(x).IsZero() }

func resolves(t *testing.T, what string, scope []catalog.Table, e api.Expr, aggregates bool, want api.Expr, kind int) {
	t.Helper()
	if got, k, err := check.Expr(scope, e, aggregates); !same(got, want) || k != kind || err != api.OK {
		t.Errorf("%s: Expr = %v, %d, %d, not %v, %d", what, got, k, err, want, kind)
	}
}

func refuses(t *testing.T, what string, scope []catalog.Table, e api.Expr, aggregates bool, want api.Errno) {
	t.Helper()
	if got, k, err := check.Expr(scope, e, aggregates); !isZero(got) || k != 0 || err != want {
		t.Errorf("%s: Expr = %v, %d, %d, not %d", what, got, k, err, want)
	}
}

// The chapter's example.
func TestP71Example(t *testing.T) {
	scope := state("create table t (k int, a bool, primary key (k))").Tables
	refuses(t, "a + 1", scope, expr("a + 1"), false, api.ErrType)
	resolves(t, "k + 1", scope, expr("k + 1"), false, op(add, at(0), num(1)), 1)
}

func TestP71OneOrTwoTables(t *testing.T) {
	all := tables("t", "one", "wide", "t", "u")
	for _, n := range []int{0, 3, 4, 5} {
		for _, e := range []api.Expr{num(1), col("a"), col("nowhere"), colOf("nowhere", "a"), op(23), deep(13), wide(65), op(countAll), expr("a + c")} {
			for _, aggregates := range []bool{false, true} {
				refuses(t, fmt.Sprint(n, " tables"), all[:n], e, aggregates, api.ErrCount)
			}
		}
	}
	refuses(t, "nil", nil, num(1), true, api.ErrCount)
	refuses(t, "tables without end", make([]catalog.Table, 100000), num(1), true, api.ErrCount)
	for n := 1; n <= 2; n++ {
		resolves(t, fmt.Sprint(n, " tables"), all[:n], col("a"), false, at(0), 1)
	}
}

// deep has n parts within each other, the last of them a column that is nowhere.
func deep(n int) api.Expr {
	e := colOf("nowhere", "a")
	for range n - 1 {
		e = op(neg, e)
	}
	return e
}

// wide has n parts, an odd number of them, none deep; its columns are nowhere.
func wide(n int) api.Expr {
	if n == 1 {
		return colOf("nowhere", "a")
	}
	left := n / 4 * 2
	return op(add, wide(left+1), wide(n-left-2))
}

func TestP71ExpressionsThatMayNotBe(t *testing.T) {
	itself := []api.Expr{num(1), num(2)}
	itself[0], itself[1] = op(add, itself...), op(add, itself...)
	for what, x := range map[string]struct {
		e    api.Expr
		want api.Errno
	}{
		"too deep":                   {deep(13), api.ErrDeep},
		"far too deep":               {deep(5000), api.ErrDeep},
		"too many":                   {wide(65), api.ErrCount},
		"far too many":               {wide(9999), api.ErrDeep},
		"a part of itself":           {itself[0], api.ErrDeep},
		"no op":                      {op(23), api.ErrState},
		"an op below all":            {op(-1), api.ErrState},
		"the least op":               {op(least), api.ErrState},
		"the greatest op":            {op(greatest), api.ErrState},
		"an Arg too few":             {op(add, col("nowhere")), api.ErrState},
		"an Arg too many":            {op(neg, col("a"), col("nowhere")), api.ErrState},
		"no name":                    {col(""), api.ErrState},
		"a keyword":                  {col("select"), api.ErrState},
		"a long name":                {col(strings.Repeat("a", 17)), api.ErrState},
		"a Table that is no name":    {colOf("T", "a"), api.ErrState},
		"a resolved column":          {at(0), api.ErrState},
		"a number below 0":           {num(-1), api.ErrState},
		"a value that may not be":    {lit(api.Value{Kind: 4}), api.ErrState},
		"a truth that may not be":    {lit(api.Value{Kind: 2, N: 2}), api.ErrState},
		"behind a Table that is not": {op(add, colOf("nowhere", "a"), op(23)), api.ErrState},
		"behind a kind that no fits": {op(and, expr("a + c"), op(23)), api.ErrState},
	} {
		for _, scope := range [][]catalog.Table{tables("t"), tables("t", "u")} {
			refuses(t, what, scope, x.e, false, x.want)
			refuses(t, what, scope, x.e, true, x.want)
		}
	}
	refuses(t, "as deep as may be", tables("t"), deep(12), false, api.ErrTable)
	refuses(t, "as many as may be", tables("t"), wide(63), false, api.ErrTable)
}

func TestP71ColumnsOfOneTable(t *testing.T) {
	for _, x := range some().Tables {
		scope := []catalog.Table{x}
		for i, c := range x.Columns {
			resolves(t, c.Name, scope, col(c.Name), false, at(i), c.Kind)
			resolves(t, x.Name+"."+c.Name, scope, colOf(x.Name, c.Name), true, at(i), c.Kind)
		}
		for _, name := range []string{"nowhere", "_", "i", x.Name} {
			if _, err := catalog.Column(x, name); err == api.OK {
				continue
			}
			refuses(t, name, scope, col(name), false, api.ErrColumn)
			refuses(t, x.Name+"."+name, scope, colOf(x.Name, name), true, api.ErrColumn)
		}
		for _, name := range []string{"nowhere", "i", "c", x.Name + "_"} {
			refuses(t, name+" of all", scope, colOf(name, x.Columns[0].Name), true, api.ErrTable)
			refuses(t, name+" of all, and its column", scope, colOf(name, "nowhere"), true, api.ErrTable)
		}
	}
}

func TestP71ColumnsOfTwoTables(t *testing.T) {
	for _, x := range some().Tables {
		for _, y := range some().Tables {
			if x.Name == y.Name {
				continue
			}
			scope := []catalog.Table{x, y}
			for i, c := range x.Columns {
				resolves(t, x.Name+"."+c.Name, scope, colOf(x.Name, c.Name), false, at(i), c.Kind)
			}
			for i, c := range y.Columns {
				place := i + len(x.Columns)
				resolves(t, y.Name+"."+c.Name, scope, colOf(y.Name, c.Name), false, at(place), c.Kind)
				if _, err := catalog.Column(x, c.Name); err == api.OK { // both have it
					refuses(t, c.Name, scope, col(c.Name), false, api.ErrColumn)
				} else {
					resolves(t, c.Name, scope, col(c.Name), false, at(place), c.Kind)
				}
			}
			refuses(t, "neither has it", scope, col("nowhere"), false, api.ErrColumn)
			refuses(t, "the second has it not", scope, colOf(y.Name, "nowhere"), false, api.ErrColumn)
			refuses(t, "neither is it", scope, colOf("nowhere", x.Columns[0].Name), false, api.ErrTable)
		}
	}
	scope := tables("t", "u")
	for _, name := range []string{"b", "c", "n"} { // the first has them, the second has not
		refuses(t, "u."+name, scope, colOf("u", name), false, api.ErrColumn)
	}
	for _, name := range []string{"d", "e", "f"} {
		refuses(t, "t."+name, scope, colOf("t", name), false, api.ErrColumn)
	}
	resolves(t, "t.a = f", scope, expr("t.a = f"), false, op(equal, at(0), at(7)), 2)
	resolves(t, "u.a = c", scope, expr("u.a = c"), false, op(equal, at(5), at(2)), 2)
}

// Of two tables of one name a Table is the first.
func TestP71TwoTablesOfOneName(t *testing.T) {
	x, y := tables("t")[0], tables("u")[0]
	y.Name = "t"
	scope := []catalog.Table{x, y}
	resolves(t, "t.a", scope, colOf("t", "a"), false, at(0), 1)
	resolves(t, "t.n", scope, colOf("t", "n"), false, at(3), 1)
	refuses(t, "t.d, that the second has", scope, colOf("t", "d"), false, api.ErrColumn)
	resolves(t, "d", scope, col("d"), false, at(4), 3)
	refuses(t, "a", scope, col("a"), false, api.ErrColumn)
	twice := tables("t", "t")
	for i, c := range twice[0].Columns {
		resolves(t, c.Name, twice, colOf("t", c.Name), false, at(i), c.Kind)
		refuses(t, c.Name, twice, col(c.Name), false, api.ErrColumn)
	}
}

// Tables are asked for what they have, too where they may not be.
func TestP71TablesThatMayNotBe(t *testing.T) {
	resolves(t, "no table at all", make([]catalog.Table, 1), expr("1 + 2"), false, expr("1 + 2"), 1)
	for n := 1; n <= 2; n++ {
		refuses(t, "no column", make([]catalog.Table, n), col("a"), false, api.ErrColumn)
		refuses(t, "no name", make([]catalog.Table, n), colOf("t", "a"), false, api.ErrTable)
	}
	odd := catalog.Table{Name: "t", Key: -9, Indexes: make([]catalog.Index, 99), Columns: []api.Column{{Name: "a", Kind: 1}, {}, {Name: "a", Kind: 2}, {Name: "z"}, {Name: "y", Kind: least}, {Name: "x", Kind: 9}}}
	for i := range 1000 {
		odd.Columns = append(odd.Columns, api.Column{Name: fmt.Sprint("c", i), Kind: 1})
	}
	scope := []catalog.Table{odd, {Name: "u", Columns: []api.Column{{Name: "b", Kind: 2}}}}
	resolves(t, "one table has it twice", scope, col("a"), false, at(0), 1)
	resolves(t, "one table has it twice", scope, colOf("t", "a"), false, at(0), 1)
	resolves(t, "the last of many", scope, col("c999"), false, at(1005), 1)
	resolves(t, "behind many", scope, expr("b and u.b"), false, op(and, at(1006), at(1006)), 2)
	resolves(t, "kind 0 fits", scope, expr("z + 1"), false, op(add, at(3), num(1)), 1)
	resolves(t, "unknown kinds", scope, expr("y = y"), false, op(equal, at(4), at(4)), 2)
	resolves(t, "unknown kinds", scope, expr("min(y)"), true, op(minOf, at(4)), least)
	resolves(t, "unknown kinds", scope, expr("x is null"), false, op(isNull, at(5)), 2)
	for _, s := range []string{"x = y", "y = 1", "x + 1", "not y", "-x", "sum(x)", "x or b"} {
		refuses(t, s, scope, expr(s), true, api.ErrType)
	}
}

// Literals are as they were, at their edges too; ops stay.
func TestP71WhatIsNoColumnStays(t *testing.T) {
	for _, s := range []string{"null", "0", "9223372036854775807", "true", "false", "''", "'it''s'", "'" + strings.Repeat("x", 64) + "'"} {
		for _, aggregates := range []bool{false, true} {
			e := expr(s)
			resolves(t, s, tables("t"), e, aggregates, e, e.Value.Kind)
		}
	}
	s := "(1 + 2 * 3 - 4 / -5 >= 6) = (7 < 8 and not 'a' <> 'b' or null is null) and ('a' <= 'b') <> ('c' > 'd') or 1 is not null"
	resolves(t, s, tables("t"), expr(s), false, expr(s), 2)
	s = "count(*) + count('a') * sum(1) = max(2) or min(true)"
	resolves(t, s, tables("t"), expr(s), true, expr(s), 2)
	if err := syntax.CheckExpr(expr(s)); err != api.OK {
		t.Errorf("CheckExpr = %d", err)
	}
}
