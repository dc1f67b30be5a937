package check_test

import (
	"fmt"
	"slices"
	"strings"
	"testing"

	"switchback/api"
	"switchback/catalog"
	"switchback/check"
)

func sameStmt(a, b api.Stmt) bool {
	exprs := func(a, b []api.Expr) bool { return slices.EqualFunc(a, b, same) }
	return a.Kind == b.Kind && a.Table == b.Table && a.Key == b.Key && a.Index == b.Index && a.Join == b.Join && a.Limit == b.Limit &&
		slices.Equal(a.Columns, b.Columns) && slices.Equal(a.Order, b.Order) && slices.EqualFunc(a.Rows, b.Rows, exprs) &&
		slices.EqualFunc(a.Sets, b.Sets, func(a, b api.Set) bool { return a.Name == b.Name && same(a.Expr, b.Expr) }) &&
		exprs(a.Items, b.Items) && exprs(a.On, b.On) && exprs(a.Where, b.Where) && exprs(a.Group, b.Group)
}

func sameTyped(a, b check.Typed) bool {
	return sameStmt(a.Stmt, b.Stmt) && a.Table == b.Table && a.Join == b.Join && a.Group == b.Group && slices.Equal(a.Kinds, b.Kinds)
}

// answers holds that Stmt of x in some answers it, changed so.
func answers(t *testing.T, what string, x api.Stmt, table, join, group int, kinds []int, change func(x *api.Stmt)) {
	t.Helper()
	want := check.Typed{Stmt: x, Table: table, Join: join, Group: group, Kinds: kinds}
	want.Stmt.Sets = slices.Clone(x.Sets)
	change(&want.Stmt)
	if got, err := check.Stmt(some(), x); !sameTyped(got, want) || err != api.OK {
		t.Errorf("%s: Stmt = %+v, %d, not %+v", what, got, err, want)
	}
}

func refusesStmt(t *testing.T, what string, s catalog.State, x api.Stmt, want api.Errno) {
	t.Helper()
	if got, err := check.Stmt(s, x); !isZero(got) || err != want {
		t.Errorf("%s: Stmt = %+v, %d, not %d", what, got, err, want)
	}
}

// refusesTexts holds what statements over some are refused for.
func refusesTexts(t *testing.T, texts map[string]api.Errno) {
	t.Helper()
	for s, want := range texts {
		refusesStmt(t, s, some(), stmt(s), want)
	}
}

// with is the statement that a text is, changed.
func with(s string, change func(x *api.Stmt)) api.Stmt {
	x := stmt(s)
	change(&x)
	return x
}

// one is a statement of each kind, over tables of some.
func one() []string {
	return []string{
		"create table z (a int, b bool not null, c text, primary key (c))", "create index z on t (b)", "drop table t",
		"insert into t values (1, true, 'x', 2), (3, null, null, 4)", "update t set b = a < n, c = 'y' where b", "delete from t where a = n",
		"select b, count(*) from t join u on t.a = f where c = u.a group by b order by 2 desc, 1 limit 3", "begin", "commit", "rollback",
	}
}

// What is no table's rows is as it is, whatever tables there are.
func TestP72StatementsThatAreAsTheyAre(t *testing.T) {
	for _, s := range []string{
		"create table z (a int, b bool not null, c text, primary key (c))", "create table t (a int, primary key (a))", "create table z (a int, a text, primary key (b))",
		"create index z on t (b)", "create index i on t (c)", "create index z on nowhere (nothing)", "create index z on t (nothing)",
		"drop table t", "drop table nowhere", "begin", "commit", "rollback",
	} {
		for _, l := range []catalog.State{{}, {Tables: []catalog.Table{}}, some()} {
			want := check.Typed{Stmt: stmt(s), Table: -1, Join: -1, Group: -1}
			if got, err := check.Stmt(l, stmt(s)); !sameTyped(got, want) || err != api.OK {
				t.Errorf("%s: Stmt = %+v, %d", s, got, err)
			}
		}
	}
}

// wrongStates are catalogs that may not be.
func wrongStates() map[string]catalog.State {
	change := func(change func(s *catalog.State)) catalog.State {
		s := some()
		change(&s)
		return s
	}
	return map[string]catalog.State{
		"a table that is none":    {Tables: make([]catalog.Table, 1)},
		"tables that do not rise": change(func(s *catalog.State) { slices.Reverse(s.Tables) }),
		"a table twice":           change(func(s *catalog.State) { s.Tables[1] = s.Tables[0] }),
		"nine tables":             change(func(s *catalog.State) { s.Tables = append(s.Tables, make([]catalog.Table, 4)...) }),
		"a kind that is none":     change(func(s *catalog.State) { s.Tables[4].Columns[7].Kind = 0 }),
		"a key that may be NULL":  change(func(s *catalog.State) { s.Tables[3].Columns[0].NotNull = false }),
		"no columns":              change(func(s *catalog.State) { s.Tables[0].Columns = nil }),
		"an index of no column":   change(func(s *catalog.State) { s.Tables[2].Indexes[0].Column = 4 }),
	}
}

// wrongStmts are statements that may not be, and syntax.Check's errors of them.
func wrongStmts() []struct {
	x    api.Stmt
	want api.Errno
} {
	type wrong = struct {
		x    api.Stmt
		want api.Errno
	}
	var l []wrong
	for _, kind := range []int{least, -1, 0, 11, 1<<32 + 7, greatest} {
		l = append(l, wrong{api.Stmt{Kind: kind, Table: "nowhere", Limit: -9}, api.ErrKind})
	}
	for _, s := range one() {
		l = append(l, wrong{with(s, func(x *api.Stmt) { x.Limit = -2 }), api.ErrState})
		l = append(l, wrong{with(s, func(x *api.Stmt) { x.Table = "Nowhere" }), api.ErrState})
	}
	for _, s := range []string{"insert into nowhere values (1)", "update nowhere set a = 1", "delete from nowhere", "select a from nowhere"} {
		l = append(l, wrong{with(s, func(x *api.Stmt) { x.Index = "i" }), api.ErrState})
	}
	for _, s := range []string{"update nowhere set a = 1", "delete from nowhere", "select a from nowhere"} {
		l = append(l, wrong{with(s, func(x *api.Stmt) { x.Where = []api.Expr{deep(13)} }), api.ErrDeep})
		l = append(l, wrong{with(s, func(x *api.Stmt) { x.Where = []api.Expr{wide(65)} }), api.ErrCount})
		l = append(l, wrong{with(s, func(x *api.Stmt) { x.Where = []api.Expr{op(23)} }), api.ErrState})
		l = append(l, wrong{with(s, func(x *api.Stmt) { x.Where = []api.Expr{at(0)} }), api.ErrState})
	}
	return append(l,
		wrong{with("insert into t values (c)", func(x *api.Stmt) { x.Rows = append(x.Rows, []api.Expr{deep(13)}) }), api.ErrDeep},
		wrong{with("insert into t values (c)", func(x *api.Stmt) { x.Rows = append(x.Rows, nil) }), api.ErrState},
		wrong{with("update t set x = 1", func(x *api.Stmt) { x.Sets = append(x.Sets, api.Set{Name: "y", Expr: num(-1)}) }), api.ErrState},
		wrong{with("select x from t", func(x *api.Stmt) { x.Items = nil }), api.ErrState},
		wrong{with("select x from t", func(x *api.Stmt) { x.Join = "t" }), api.ErrState},
		wrong{with("select x from t order by 16", func(x *api.Stmt) { x.Order[0].N = 17 }), api.ErrState},
		wrong{with("select x from t group by x", func(x *api.Stmt) { x.Group[0] = op(neg, x.Group[0]) }), api.ErrState},
	)
}

func TestP72CatalogsAndStatementsThatMayNotBe(t *testing.T) {
	for what, s := range wrongStates() {
		for _, text := range one() {
			refusesStmt(t, what+": "+text, s, stmt(text), api.ErrState)
		}
		for _, x := range wrongStmts() {
			refusesStmt(t, what, s, x.x, api.ErrState)
		}
	}
	for _, x := range wrongStmts() {
		refusesStmt(t, fmt.Sprintf("%+v", x.x), some(), x.x, x.want)
		refusesStmt(t, fmt.Sprintf("%+v", x.x), catalog.State{}, x.x, x.want)
	}
}

func TestP72TablesThatAreNot(t *testing.T) {
	for _, s := range one() {
		x := stmt(s)
		if x.Kind < 4 || x.Kind > 7 {
			continue
		}
		refusesStmt(t, s+", no table at all", catalog.State{}, x, api.ErrTable)
		for _, name := range []string{"nowhere", "i", "b", "tt", "_", "v"} {
			refusesStmt(t, s+", of "+name, some(), with(s, func(x *api.Stmt) { x.Table = name }), api.ErrTable)
		}
	}
	refusesTexts(t, map[string]api.Errno{
		"insert into x values (1), (nowhere, 2)":                   api.ErrTable,
		"update x set a = 1, a = nowhere where 1":                  api.ErrTable,
		"delete from x where 1":                                    api.ErrTable,
		"select nowhere from x join y on 1 where 1 order by 2":     api.ErrTable,
		"select nowhere from t join y on 1 where 1 order by 2":     api.ErrTable,
		"select nowhere from x join x on 1 where 1 order by 2":     api.ErrTable,
		"select nowhere from x join t on 1 where 1 order by 2":     api.ErrTable,
		"select nowhere from t join t on 1 where x.a order by 2":   api.ErrTwice,
		"select a from one join one on one.k = one.k":              api.ErrTwice,
		"select 1 from t join t on true where true":                api.ErrTwice,
		"select 1 from t join i on true":                           api.ErrTable,
		"select 1 from t join nowhere on x.a = nowhere + count(1)": api.ErrTable,
	})
}

func TestP72Insert(t *testing.T) {
	s := "insert into t values (1, true, 'x', 2), (-(3 + 4), 1 = 2 or null, null, null * 1), (null, null, null, null)"
	answers(t, s, stmt(s), 2, -1, -1, nil, func(x *api.Stmt) {})
	s = "insert into one values ('')" + strings.Repeat(", ('')", 15)
	answers(t, s, stmt(s), 1, -1, -1, nil, func(x *api.Stmt) {})
	s = "insert into wide values (0, true, 'a', 1, false, 'b', 2, null is null)"
	answers(t, s, stmt(s), 4, -1, -1, nil, func(x *api.Stmt) {})
}

// Each error of an insert, and which goes ahead: row by row, and in a row one by one.
func TestP72InsertErrors(t *testing.T) {
	refusesTexts(t, map[string]api.Errno{
		"insert into t values (1)":                                       api.ErrCount,
		"insert into t values (1, true, 'x')":                            api.ErrCount,
		"insert into t values (1, true, 'x', 2, 3)":                      api.ErrCount,
		"insert into t values (1, true, 'x', 2), (1)":                    api.ErrCount,
		"insert into t values (x.a, a, 1, count(*), 5)":                  api.ErrCount, // ahead of what stands in it
		"insert into t values (1, true, 'x', 'x'), (1)":                  api.ErrType,  // but a row ahead of it counts
		"insert into t values (1, true, x.a, 2), (1)":                    api.ErrColumn,
		"insert into t values (1, true, 'x', 2), (1), ('x', 1, 1, true)": api.ErrCount,
		"insert into one values (1), ('x', 'y')":                         api.ErrType,
		"insert into one values ('x', 'y'), (1)":                         api.ErrCount,

		"insert into t values (a, true, 'x', 2)":                 api.ErrColumn,
		"insert into t values (t.a, true, 'x', 2)":               api.ErrColumn,
		"insert into t values (nowhere, true, 'x', 2)":           api.ErrColumn,
		"insert into t values (1, true, 'x', 2 + 3 * (4 - a))":   api.ErrColumn,
		"insert into t values (1, b is null, 'x', 2)":            api.ErrColumn,
		"insert into t values (c, true, 'x', 2)":                 api.ErrColumn, // ahead of a kind that is not its column's
		"insert into t values (1, a, 'x', 2)":                    api.ErrColumn,
		"insert into t values (1, true, 'x', 2), (1, b, 'x', 2)": api.ErrColumn,

		"insert into t values (1 + 'x', true, 'x', 2)":           api.ErrType, // Expr's errors
		"insert into t values (count(*), true, 'x', 2)":          api.ErrArg,
		"insert into t values (1, max(true), 'x', 2)":            api.ErrArg,
		"insert into t values (1, true, min('x') is null, 2)":    api.ErrArg,
		"insert into t values (1, true, sum('x'), count(*))":     api.ErrType,
		"insert into t values (1, true, nowhere, u.a)":           api.ErrColumn,
		"insert into t values (1, 1, nowhere, u.a)":              api.ErrType,
		"insert into t values (1, true, u.a, 2 + 'x')":           api.ErrColumn,
		"insert into t values (1, a, 1, 2), (u.a, 1, true, 'x')": api.ErrColumn,
	})
	placesOfARow(t)
}

// placesOfARow holds each place of a row, with each kind of literal.
func placesOfARow(t *testing.T) {
	t.Helper()
	literals := []string{"null", "1", "true", "'x'"}
	for _, table := range some().Tables {
		for i, c := range table.Columns {
			for kind, s := range literals {
				var row []string
				for _, c := range table.Columns {
					row = append(row, literals[c.Kind])
				}
				first := "(" + strings.Join(row, ", ") + ")"
				row[i] = s
				text := "insert into " + table.Name + " values " + first + ", (" + strings.Join(row, ", ") + ")"
				_, err := check.Stmt(some(), stmt(text))
				if want := kind == 0 || kind == c.Kind; want != (err == api.OK) || !want && err != api.ErrType {
					t.Errorf("%s: Stmt = %d", text, err)
				}
			}
		}
	}
}

// A column of an insert is refused at its turn, part by part, Args first: whatever Expr would tell of it, or of the parts that it stands in.
func TestP72ColumnsOfAnInsert(t *testing.T) {
	for s, want := range map[string]api.Errno{
		"a":                         api.ErrColumn,
		"t.a":                       api.ErrColumn,
		"u.a":                       api.ErrColumn, // of another table
		"x.a":                       api.ErrColumn, // of a table that is not
		"x.nowhere":                 api.ErrColumn,
		"nowhere":                   api.ErrColumn,
		"x.a + null":                api.ErrColumn,
		"null + x.a":                api.ErrColumn,
		"a and a":                   api.ErrColumn, // ahead of the kinds of what it stands in
		"true + n":                  api.ErrColumn,
		"null + b":                  api.ErrColumn,
		"a + c":                     api.ErrColumn,
		"-b":                        api.ErrColumn,
		"not a":                     api.ErrColumn,
		"a = 'x'":                   api.ErrColumn,
		"1 + ('x' + (true + a))":    api.ErrColumn,
		"count(a)":                  api.ErrColumn, // ahead of the aggregate that it stands in
		"max(a)":                    api.ErrColumn,
		"sum(c)":                    api.ErrColumn,
		"sum(x.a)":                  api.ErrColumn,
		"max(min(a))":               api.ErrColumn,
		"a + (-true)":               api.ErrColumn, // ahead of what comes behind it
		"x.a + (-true)":             api.ErrColumn,
		"c is null and 1":           api.ErrColumn,
		"a + count(*)":              api.ErrColumn,
		"x.a = sum('x')":            api.ErrColumn,
		"max(a) + max(1)":           api.ErrColumn,
		"(-true) + a":               api.ErrType, // what comes ahead of it
		"(-true) + x.a":             api.ErrType,
		"(1 = 'x') and nowhere":     api.ErrType,
		"1 + ((true + 1) + a)":      api.ErrType,
		"(1 and true) is null or a": api.ErrType,
		"count(*) + a":              api.ErrArg,
		"max(1) = x.a":              api.ErrArg,
		"max(1) + max(a)":           api.ErrArg,
		"sum('x') = x.a":            api.ErrType,
	} {
		for i := range 4 {
			row := []string{"null", "null", "null", "null"}
			row[i] = s
			text := "insert into t values (1, true, 'x', 2), (" + strings.Join(row, ", ") + ")"
			refusesStmt(t, text, some(), stmt(text), want)
		}
	}
}

// All expressions of few parts, each in each place of a row.
func TestP72ShortExpressionsOfAnInsert(t *testing.T) {
	s := some()
	for _, e := range shortExprs() {
		for i := range 4 {
			row := make([]api.Expr, 4)
			row[i] = e
			x := api.Stmt{Kind: 4, Table: "t", Rows: [][]api.Expr{row}}
			want, wrong := byChapter(s, x)
			if got, err := check.Stmt(s, x); !sameTyped(got, want) || err != wrong {
				t.Fatalf("Stmt(%+v) = %+v, %d, not %+v, %d", x, got, err, want, wrong)
			}
		}
	}
}

func TestP72Update(t *testing.T) {
	s := "update t set b = a < t.n, c = c, a = null, n = n + 1 where b and c = 'x'"
	answers(t, s, stmt(s), 2, -1, -1, nil, func(x *api.Stmt) {
		x.Sets = []api.Set{{Name: "b", Expr: op(below, at(0), at(3))}, {Name: "c", Expr: at(2)}, {Name: "a"}, {Name: "n", Expr: op(add, at(3), num(1))}}
		x.Where = []api.Expr{op(and, at(1), op(equal, at(2), expr("'x'")))}
	})
	s = "update one set k = 'x'"
	answers(t, s, stmt(s), 1, -1, -1, nil, func(x *api.Stmt) {})
	s = "update wide set k7 = k4, k6 = k3, k5 = k2, k4 = k1, k3 = k0, k2 = k5, k1 = k7, k0 = k6 where null"
	answers(t, s, stmt(s), 4, -1, -1, nil, func(x *api.Stmt) {
		for i, from := range []int{4, 3, 2, 1, 0, 5, 7, 6} {
			x.Sets[i].Expr = at(from)
		}
	})
}

// Each error of an update, and which goes ahead: set by set, then its condition.
func TestP72UpdateErrors(t *testing.T) {
	refusesTexts(t, map[string]api.Errno{
		"update t set nowhere = 1":                    api.ErrColumn,
		"update t set t = 1":                          api.ErrColumn,
		"update t set d = 1":                          api.ErrColumn,
		"update t set i = 1":                          api.ErrColumn,
		"update t set a = 1, nowhere = 2":             api.ErrColumn,
		"update t set nowhere = 1, nowhere = 2":       api.ErrColumn,
		"update t set a = 1, a = 2":                   api.ErrTwice,
		"update t set a = a, b = b, c = c, a = a":     api.ErrTwice,
		"update t set a = 1, n = 2, n = n where b":    api.ErrTwice,
		"update t set nowhere = x.a where 1":          api.ErrColumn,
		"update t set a = 1, a = x.a where 1":         api.ErrTwice,
		"update t set a = x.a, a = 1 where 1":         api.ErrTable,
		"update t set a = 'x', nowhere = 1 where 1":   api.ErrType,
		"update t set a = 'x', a = 1 where 1":         api.ErrType,
		"update t set a = x.a":                        api.ErrTable,
		"update t set a = u.a":                        api.ErrTable,
		"update t set a = nowhere":                    api.ErrColumn,
		"update t set a = t.d":                        api.ErrColumn,
		"update t set a = b + 1":                      api.ErrType,
		"update t set a = count(*)":                   api.ErrArg,
		"update t set a = 1 + max(n)":                 api.ErrArg,
		"update t set b = sum(c)":                     api.ErrType,
		"update t set b = max(a)":                     api.ErrArg, // Expr's error ahead of the kind
		"update t set a = b":                          api.ErrType,
		"update t set b = 1":                          api.ErrType,
		"update t set c = true":                       api.ErrType,
		"update t set n = 'x'":                        api.ErrType,
		"update t set a = 1, b = c":                   api.ErrType,
		"update t set a = 1 where a":                  api.ErrType,
		"update t set a = 1 where c":                  api.ErrType,
		"update t set a = 1 where 1":                  api.ErrType,
		"update t set a = 1 where 'x'":                api.ErrType,
		"update t set a = 1 where a + 1":              api.ErrType,
		"update t set a = 1 where x.b":                api.ErrTable,
		"update t set a = 1 where nowhere":            api.ErrColumn,
		"update t set a = 1 where b and c":            api.ErrType,
		"update t set a = 1 where count(*) = 1":       api.ErrArg,
		"update t set a = 1 where count(*)":           api.ErrArg, // ahead of what is no truth
		"update t set a = true where nowhere":         api.ErrType,
		"update t set a = 1, b = nowhere where x.b":   api.ErrColumn,
		"update t set a = 1, b = b, b = b where x.b":  api.ErrTwice,
		"update t set a = 1, c = x.a, d = 1 where 1":  api.ErrTable,
		"update t set a = 1, b = 2, a = 3 where true": api.ErrType,
	})
	for i, s := range []string{"a = 1", "b = true", "c = 'x'", "n = 1"} { // each column twice, the first of one or of two
		for _, u := range []string{"", "a = 1, ", "b = true, ", "c = 'x', ", "n = 1, "} {
			if i > 0 && strings.HasPrefix(u, s) {
				continue
			}
			text := "update t set " + s + ", " + u + s
			refusesStmt(t, text, some(), stmt(text), api.ErrTwice)
		}
	}
}

func TestP72Delete(t *testing.T) {
	answers(t, "no condition", stmt("delete from one"), 1, -1, -1, nil, func(x *api.Stmt) {})
	for s, want := range map[string]api.Expr{
		"true": expr("true"), "null": expr("null"), "e": at(2), "not u.e": op(not, at(2)),
		"a = d and f > 3": op(and, op(equal, at(1), at(0)), op(above, at(3), num(3))), "a is null": op(isNull, at(1)),
	} {
		answers(t, s, stmt("delete from u where "+s), 3, -1, -1, nil, func(x *api.Stmt) { x.Where = []api.Expr{want} })
	}
	refusesTexts(t, map[string]api.Errno{
		"delete from u where f":              api.ErrType,
		"delete from u where 1":              api.ErrType,
		"delete from u where 'true'":         api.ErrType,
		"delete from u where d":              api.ErrType,
		"delete from u where f + null":       api.ErrType,
		"delete from u where e and 1":        api.ErrType,
		"delete from u where t.b":            api.ErrTable,
		"delete from u where b":              api.ErrColumn,
		"delete from u where u.b":            api.ErrColumn,
		"delete from u where max(e)":         api.ErrArg,
		"delete from u where sum(e) is null": api.ErrType,
		"delete from u where max(f)":         api.ErrArg,
		"delete from u where min(null)":      api.ErrArg,
	})
}
