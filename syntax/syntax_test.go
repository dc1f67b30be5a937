package syntax_test

import (
	"math"
	"reflect"
	"slices"
	"strings"
	"testing"

	"switchback/api"
	"switchback/syntax"
)

const (
	least    = math.MinInt64
	greatest = math.MaxInt64
)

const (
	neg = iota + 2
	not
	add
	sub
	mul
	div
	equal
	unlike
	below
	atMost
	above
	atLeast
	and
	or
	isNull
	isNotNull
	countAll
	count
	sum
	minOf
	maxOf
)

const keywords = "create table index on drop insert into values update set delete from where select join group by order desc limit begin commit rollback primary key not null is and or true false int bool text count sum min max"

func lit(v api.Value) api.Expr { return api.Expr{Value: v} }

func null() api.Expr { return api.Expr{} }

func num(n int) api.Expr { return lit(api.Value{Kind: 1, N: n}) }

func no() api.Expr { return lit(api.Value{Kind: 2}) }

func yes() api.Expr { return lit(api.Value{Kind: 2, N: 1}) }

func text(s string) api.Expr { return lit(api.Value{Kind: 3, Text: s}) }

func col(name string) api.Expr { return api.Expr{Op: 1, Name: name} }

func colOf(table, name string) api.Expr { return api.Expr{Op: 1, Table: table, Name: name} }

func op(n int, args ...api.Expr) api.Expr { return api.Expr{Op: n, Args: args} }

func list(l ...api.Expr) []api.Expr { return l }

// argsOf: how many Args an op has, of each from 0 to 22.
func argsOf(n int) int {
	return int("00112222222222221101111"[n] - '0')
}

// deep is an expression of n parts, each within the one ahead of it.
func deep(n int) api.Expr {
	e := col("a")
	for range n - 1 {
		e = op(neg, e)
	}
	return e
}

// wide is an expression of n parts, within each other as few as may be.
func wide(n int) api.Expr {
	switch {
	case n == 1:
		return col("a")
	case n%2 == 0:
		return op(not, wide(n-1))
	}
	return op(add, wide(n/2), wide(n-1-n/2))
}

func countParts(e api.Expr) int {
	n := 1
	for _, arg := range e.Args {
		n += countParts(arg)
	}
	return n
}

func repeat[T any](x T, n int) []T {
	return slices.Repeat([]T{x}, n)
}

// rolled answers numbers below a bound, the same each time.
func rolled(seed uint64) func(n int) int {
	return func(n int) int {
		seed = seed*6364136223846793005 + 1442695040888963407
		return int(seed >> 33 % uint64(n))
	}
}

func cloneExpr(e api.Expr) api.Expr {
	e.Table, e.Name, e.Value.Text = strings.Clone(e.Table), strings.Clone(e.Name), strings.Clone(e.Value.Text)
	e.Args = cloneExprs(e.Args)
	return e
}

func cloneExprs(l []api.Expr) []api.Expr {
	if l == nil {
		return nil
	}
	m := make([]api.Expr, len(l))
	for i := range l {
		m[i] = cloneExpr(l[i])
	}
	return m
}

// cloneStmt shares no list with x.
func cloneStmt(x api.Stmt) api.Stmt {
	x.Columns, x.Order, x.Sets, x.Rows = slices.Clone(x.Columns), slices.Clone(x.Order), slices.Clone(x.Sets), slices.Clone(x.Rows)
	for i := range x.Sets {
		x.Sets[i].Expr = cloneExpr(x.Sets[i].Expr)
	}
	for i := range x.Rows {
		x.Rows[i] = cloneExprs(x.Rows[i])
	}
	x.Items, x.On, x.Where, x.Group = cloneExprs(x.Items), cloneExprs(x.On), cloneExprs(x.Where), cloneExprs(x.Group)
	return x
}

// rowsOf an insert.
func rowsOf(l ...[]api.Expr) [][]api.Expr { return l }

type printed struct {
	x     api.Stmt
	print string
}

// fullest is a select with all that it may have.
func fullest() printed {
	return printed{
		api.Stmt{Kind: 7, Table: "t", Items: list(op(sum, op(mul, col("a"), col("b")))),
			Join: "t", On: list(op(equal, colOf("t", "a"), colOf("u", "a"))), Where: list(op(above, col("a"), num(1))),
			Group: list(col("a")), Order: []api.Order{{N: 1, Desc: true}, {N: 2}}, Limit: 3},
		"SELECT SUM((a * b)) FROM t JOIN t ON (t.a = u.a) WHERE (a > 1) GROUP BY a ORDER BY 1 DESC, 2 LIMIT 3",
	}
}

// bases are statements that may be, of each kind, each with its print.
func bases() []printed {
	a, b, one := col("a"), col("b"), num(1)
	return []printed{
		{api.Stmt{Kind: 1, Table: "t", Columns: []api.Column{{Name: "a", Kind: 1}}, Key: "a"}, "CREATE TABLE t (a INT, PRIMARY KEY (a))"},
		{api.Stmt{Kind: 1, Table: "t", Columns: []api.Column{{Name: "c", Kind: 1, NotNull: true}, {Name: "d", Kind: 3}}, Key: "c"}, "CREATE TABLE t (c INT NOT NULL, d TEXT, PRIMARY KEY (c))"},
		{api.Stmt{Kind: 1, Table: "_", Columns: []api.Column{{Name: "a", Kind: 2}, {Name: "b_1", Kind: 3, NotNull: true}, {Name: "a", Kind: 2, NotNull: true}}, Key: "z"}, "CREATE TABLE _ (a BOOL, b_1 TEXT NOT NULL, a BOOL NOT NULL, PRIMARY KEY (z))"},
		{api.Stmt{Kind: 2, Index: "i", Table: "t", Key: "c"}, "CREATE INDEX i ON t (c)"},
		{api.Stmt{Kind: 2, Index: "t", Table: "t", Key: "t"}, "CREATE INDEX t ON t (t)"},
		{api.Stmt{Kind: 3, Table: "t"}, "DROP TABLE t"},
		{api.Stmt{Kind: 4, Table: "t", Rows: rowsOf(list(one))}, "INSERT INTO t VALUES (1)"},
		{api.Stmt{Kind: 4, Table: "t", Rows: rowsOf(list(one, text("x")), list(null(), op(add, one, num(2))))}, "INSERT INTO t VALUES (1, 'x'), (NULL, (1 + 2))"},
		{api.Stmt{Kind: 4, Table: "t", Rows: rowsOf(list(a), list(yes(), no()), list(op(neg, one)))}, "INSERT INTO t VALUES (a), (TRUE, FALSE), ((-1))"},
		{api.Stmt{Kind: 5, Table: "t", Sets: []api.Set{{Name: "c", Expr: one}}}, "UPDATE t SET c = 1"},
		{api.Stmt{Kind: 5, Table: "t", Sets: []api.Set{{Name: "c", Expr: op(add, col("c"), one)}, {Name: "d", Expr: null()}}, Where: list(op(equal, a, one))}, "UPDATE t SET c = (c + 1), d = NULL WHERE (a = 1)"},
		{api.Stmt{Kind: 5, Table: "t", Sets: []api.Set{{Name: "c", Expr: one}, {Name: "c", Expr: one}}, Where: list(yes())}, "UPDATE t SET c = 1, c = 1 WHERE TRUE"},
		{api.Stmt{Kind: 6, Table: "t"}, "DELETE FROM t"},
		{api.Stmt{Kind: 6, Table: "t", Where: list(op(isNull, a))}, "DELETE FROM t WHERE (a IS NULL)"},
		{api.Stmt{Kind: 7, Table: "t", Items: list(a), Limit: -1}, "SELECT a FROM t"},
		{api.Stmt{Kind: 7, Table: "t", Items: list(a)}, "SELECT a FROM t LIMIT 0"},
		{api.Stmt{Kind: 7, Table: "t", Items: list(a, b, op(countAll)), Limit: 3}, "SELECT a, b, COUNT(*) FROM t LIMIT 3"},
		{api.Stmt{Kind: 7, Table: "t", Items: list(a), Join: "u", On: list(yes()), Limit: -1}, "SELECT a FROM t JOIN u ON TRUE"},
		{api.Stmt{Kind: 7, Table: "t", Items: list(a), Where: list(no()), Limit: -1}, "SELECT a FROM t WHERE FALSE"},
		{api.Stmt{Kind: 7, Table: "t", Items: list(a), Group: list(a), Limit: -1}, "SELECT a FROM t GROUP BY a"},
		{api.Stmt{Kind: 7, Table: "t", Items: list(a), Group: list(colOf("t", "a")), Limit: -1}, "SELECT a FROM t GROUP BY t.a"},
		{api.Stmt{Kind: 7, Table: "t", Items: list(a), Order: []api.Order{{N: 1}}, Limit: -1}, "SELECT a FROM t ORDER BY 1"},
		{api.Stmt{Kind: 7, Table: "t", Items: list(a), Order: []api.Order{{N: 16, Desc: true}, {N: 2}, {N: 2}}, Limit: -1}, "SELECT a FROM t ORDER BY 16 DESC, 2, 2"},
		fullest(),
		{api.Stmt{Kind: 8}, "BEGIN"},
		{api.Stmt{Kind: 9}, "COMMIT"},
		{api.Stmt{Kind: 10}, "ROLLBACK"},
	}
}

func TestP41Name(t *testing.T) {
	for _, s := range []string{"a", "z", "_", "t1", "_9", "__", "a_b", "selects", "sel", "x0123456789", "abcdefghijklmnop", "qrstuvwxyz______", "_012345678901234", "i", "of", "as", "keys", "tables", "inte", "integer", "having", "true_", strings.Repeat("a", 15), strings.Repeat("z", 16)} {
		if !syntax.Name(s) {
			t.Errorf("Name(%q) is false", s)
		}
	}
	for _, s := range []string{"", "0", "9", "1a", "0_", "9z", "A", "aB", "Ab", "T", "a b", " a", "a ", "a-b", "a.b", "a'", "'a'", "(a)", "a\n", "\x00", "a\x00", "\xff", "a\xff", "\u00e9", "a\u00e9", "a`", "a{", "a^", "a@", "a[", "a/", "a:", "SELECT", "Select",
		strings.Repeat("a", 17), strings.Repeat("_", 17), strings.Repeat("a", 32), strings.Repeat("a", 256), strings.Repeat("a", 1<<16), strings.Repeat("a", 16) + " "} {
		if syntax.Name(s) {
			t.Errorf("Name(%.40q) is true", s)
		}
	}
}

func TestP41NameOfEachOctet(t *testing.T) {
	for c := range 256 {
		s := string([]byte{byte(c)})
		letter := strings.Contains("abcdefghijklmnopqrstuvwxyz_", s)
		digit := strings.Contains("0123456789", s)
		if is := syntax.Name(s); is != letter {
			t.Errorf("Name(%q) = %v", s, is)
		}
		for _, x := range []string{"x" + s, "x" + s + "y", strings.Repeat("x", 15) + s} {
			if is := syntax.Name(x); is != (letter || digit) {
				t.Errorf("Name(%q) = %v", x, is)
			}
		}
	}
}

func TestP41NameIsNoKeyword(t *testing.T) {
	words := strings.Fields(keywords)
	if len(words) != 39 {
		t.Fatalf("%d keywords", len(words))
	}
	for _, s := range words {
		if syntax.Name(s) || syntax.Name(strings.ToUpper(s)) {
			t.Errorf("the keyword %s is a name", s)
		}
		if !syntax.Name(s+"x") || !syntax.Name("x"+s) || !syntax.Name(s+"_") {
			t.Errorf("what begins or ends with %s is no name", s)
		}
	}
}

// What stands in a list's memory behind its end is no more the program's than the list.
func TestP45NothingIsChanged(t *testing.T) {
	spare := col("spare")
	roomy := func(l []api.Expr) []api.Expr {
		m := append(make([]api.Expr, 0, len(l)+3), l...)
		for i := range 3 {
			m[:cap(m)][len(l)+i] = spare
		}
		return m
	}
	for _, b := range bases() {
		x := cloneStmt(b.x)
		x.Items, x.On, x.Where, x.Group = roomy(x.Items), roomy(x.On), roomy(x.Where), roomy(x.Group)
		rows := append(make([][]api.Expr, 0, len(x.Rows)+4), x.Rows...)
		for i := range 4 {
			rows[:cap(rows)][len(rows)+i] = list(spare)
		}
		for i := range rows {
			rows[i] = roomy(rows[i])
		}
		x.Rows = rows
		kept, keptRows := cloneStmt(x), cloneStmt(api.Stmt{Rows: rows[:cap(rows)]}).Rows
		for range 2 {
			if e := syntax.Check(x); e != api.OK {
				t.Errorf("Check(%s) = %d", b.print, e)
			}
			if s, e := syntax.Print(x); s != b.print || e != api.OK {
				t.Errorf("Print = %q, %d, not %q", s, e, b.print)
			}
			if !syntax.Same(x, x) {
				t.Errorf("Same of %s and itself is false", b.print)
			}
		}
		if !reflect.DeepEqual(x, kept) || !reflect.DeepEqual(rows[:cap(rows)], keptRows) {
			t.Errorf("%s: changed to %v", b.print, x)
		}
		for _, l := range [][]api.Expr{x.Items, x.On, x.Where, x.Group} {
			for _, e := range l[len(l):cap(l)] {
				if !reflect.DeepEqual(e, spare) {
					t.Errorf("%s: changed behind a list's end: %v", b.print, e)
				}
			}
		}
	}
}
