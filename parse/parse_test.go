package parse_test

import (
	"strconv"
	"strings"
	"testing"

	"switchback/api"
	"switchback/lex"
	"switchback/parse"
	"switchback/syntax"
)

const (
	neg = iota + 2
	not
	add
	sub
	mul
	div
	equal
	unlike
	below
	atMost
	above
	atLeast
	and
	or
	isNull
	isNotNull
	countAll
	count
	sum
	minOf
	maxOf
)

const greatest = 1<<63 - 1

func lit(v api.Value) api.Expr { return api.Expr{Value: v} }

func null() api.Expr { return api.Expr{} }

func num(n int) api.Expr { return lit(api.Value{Kind: 1, N: n}) }

func no() api.Expr { return lit(api.Value{Kind: 2}) }

func yes() api.Expr { return lit(api.Value{Kind: 2, N: 1}) }

func text(s string) api.Expr { return lit(api.Value{Kind: 3, Text: s}) }

func col(name string) api.Expr { return api.Expr{Op: 1, Name: name} }

func colOf(table, name string) api.Expr { return api.Expr{Op: 1, Table: table, Name: name} }

func op(n int, args ...api.Expr) api.Expr { return api.Expr{Op: n, Args: args} }

func list(l ...api.Expr) []api.Expr { return l }

// rowsOf an insert.
func rowsOf(l ...[]api.Expr) [][]api.Expr { return l }

// argsOf: how many Args an op has, of each from 0 to 22.
func argsOf(n int) int {
	return int("00112222222222221101111"[n] - '0')
}

// rolled answers numbers below a bound, the same each time.
func rolled(seed uint64) func(n int) int {
	return func(n int) int {
		seed = seed*6364136223846793005 + 1442695040888963407
		return int(seed >> 33 % uint64(n))
	}
}

// sameExpr tells whether two expressions both may be, and are one.
func sameExpr(a, b api.Expr) bool {
	return syntax.Same(api.Stmt{Kind: 6, Table: "t", Where: list(a)}, api.Stmt{Kind: 6, Table: "t", Where: list(b)})
}

// zeroStmt tells whether nothing is in a statement.
func zeroStmt(x api.Stmt) bool {
	return x.Kind == 0 && x.Table == "" && x.Key == "" && x.Index == "" && x.Join == "" && x.Limit == 0 &&
		len(x.Columns)+len(x.Rows)+len(x.Sets)+len(x.Items)+len(x.On)+len(x.Where)+len(x.Group)+len(x.Order) == 0
}

func zeroExpr(e api.Expr) bool {
	return e.Op == 0 && e.Value == api.Value{} && e.Table == "" && e.Name == "" && len(e.Args) == 0
}

func parses(t *testing.T, s string, want api.Stmt) {
	t.Helper()
	if x, at, e := parse.Parse(s); !syntax.Same(x, want) || at != len(s) || e != api.OK {
		t.Fatalf("Parse(%q) = %#v, %d, %d, not %#v", s, x, at, e, want)
	}
}

func parsesExpr(t *testing.T, s string, want api.Expr) {
	t.Helper()
	if x, at, e := parse.Expr(s); !sameExpr(x, want) || at != len(s) || e != api.OK {
		t.Fatalf("Expr(%q) = %#v, %d, %d, not %#v", s, x, at, e, want)
	}
}

func refuses(t *testing.T, s string, place int, want api.Errno) {
	t.Helper()
	if x, at, e := parse.Parse(s); !zeroStmt(x) || at != place || e != want {
		t.Errorf("Parse(%.200q) = %#v, %d, %d, not %d, %d", s, x, at, e, place, want)
	}
}

func refusesExpr(t *testing.T, s string, place int, want api.Errno) {
	t.Helper()
	if x, at, e := parse.Expr(s); !zeroExpr(x) || at != place || e != want {
		t.Errorf("Expr(%.200q) = %#v, %d, %d, not %d, %d", s, x, at, e, place, want)
	}
}

// marked answers a text without its ^, and the octet at which that stood.
func marked(s string) (string, int) {
	ahead, behind, _ := strings.Cut(s, "^")
	return ahead + behind, len(ahead)
}

// wordsOf answers a text's tokens, each as it may be written.
func wordsOf(s string) []string {
	tokens, _, _ := lex.Lex(s)
	var l []string
	for _, t := range tokens {
		switch t.Kind {
		case 2:
			l = append(l, strconv.Itoa(t.N))
		case 3:
			l = append(l, "'"+strings.ReplaceAll(t.Text, "'", "''")+"'")
		default:
			l = append(l, t.Text)
		}
	}
	return l
}

// spelled writes tokens in letters of any case, with anything between them that says nothing.
func spelled(next func(n int) int, words []string) string {
	var s strings.Builder
	for i, word := range words {
		if i > 0 && !(strings.Contains("(),", word) || strings.Contains("(),", words[i-1])) || next(3) == 0 {
			s.WriteString([]string{" ", "  ", "\n", "\t", "\n\t ", " -- it's ( here ;\n", "\n--\n"}[next(7)])
		}
		if word[0] == '\'' {
			s.WriteString(word)
			continue
		}
		for _, c := range []byte(word) {
			if c >= 'a' && c <= 'z' && next(2) == 0 {
				c -= 'a' - 'A'
			}
			s.WriteByte(c)
		}
	}
	return s.String() + []string{"", " ", "\n", " -- end"}[next(4)]
}

type written struct {
	s string
	x api.Stmt
}

// ordinary are statements of each kind, as one may write them.
func ordinary() []written {
	a, b, c, one, two := col("a"), col("b"), col("c"), num(1), num(2)
	return []written{
		{"create table t (a int, primary key (a))", api.Stmt{Kind: 1, Table: "t", Columns: []api.Column{{Name: "a", Kind: 1}}, Key: "a"}},
		{"create table t_1 (a int not null, b bool, c text not null, d text, primary key (c))", api.Stmt{Kind: 1, Table: "t_1", Key: "c",
			Columns: []api.Column{{Name: "a", Kind: 1, NotNull: true}, {Name: "b", Kind: 2}, {Name: "c", Kind: 3, NotNull: true}, {Name: "d", Kind: 3}}}},
		{"create table _ (a bool not null, a bool, primary key (z))", api.Stmt{Kind: 1, Table: "_", Columns: []api.Column{{Name: "a", Kind: 2, NotNull: true}, {Name: "a", Kind: 2}}, Key: "z"}},
		{"create index i on t (c)", api.Stmt{Kind: 2, Index: "i", Table: "t", Key: "c"}},
		{"drop table t", api.Stmt{Kind: 3, Table: "t"}},
		{"insert into t values (1)", api.Stmt{Kind: 4, Table: "t", Rows: rowsOf(list(one))}},
		{"insert into t values (1, 'it''s', null), (true, false, 1 + 2)", api.Stmt{Kind: 4, Table: "t", Rows: rowsOf(list(one, text("it's"), null()), list(yes(), no(), op(add, one, two)))}},
		{"insert into t values ((1), ((2))), (-1, a.b), ('')", api.Stmt{Kind: 4, Table: "t", Rows: rowsOf(list(one, two), list(op(neg, one), colOf("a", "b")), list(text("")))}},
		{"update t set c = 1", api.Stmt{Kind: 5, Table: "t", Sets: []api.Set{{Name: "c", Expr: one}}}},
		{"update t set c = c + 1, d = null where a = 1 and b", api.Stmt{Kind: 5, Table: "t", Sets: []api.Set{{Name: "c", Expr: op(add, c, one)}, {Name: "d"}}, Where: list(op(and, op(equal, a, one), b))}},
		{"update t set c = a = b, c = not a = b", api.Stmt{Kind: 5, Table: "t", Sets: []api.Set{{Name: "c", Expr: op(equal, a, b)}, {Name: "c", Expr: op(not, op(equal, a, b))}}}},
		{"delete from t", api.Stmt{Kind: 6, Table: "t"}},
		{"delete from t where a is null or a < 1", api.Stmt{Kind: 6, Table: "t", Where: list(op(or, op(isNull, a), op(below, a, one)))}},
		{"select a from t", api.Stmt{Kind: 7, Table: "t", Items: list(a), Limit: -1}},
		{"select a, b + 1, count(*) from t limit 0", api.Stmt{Kind: 7, Table: "t", Items: list(a, op(add, b, one), op(countAll)), Limit: 0}},
		{"select t.a from t join u on t.a = u.b", api.Stmt{Kind: 7, Table: "t", Items: list(colOf("t", "a")), Join: "u", On: list(op(equal, colOf("t", "a"), colOf("u", "b"))), Limit: -1}},
		{"select a from t where a", api.Stmt{Kind: 7, Table: "t", Items: list(a), Where: list(a), Limit: -1}},
		{"select a from t group by a", api.Stmt{Kind: 7, Table: "t", Items: list(a), Group: list(a), Limit: -1}},
		{"select a from t group by t.a", api.Stmt{Kind: 7, Table: "t", Items: list(a), Group: list(colOf("t", "a")), Limit: -1}},
		{"select a from t order by 1", api.Stmt{Kind: 7, Table: "t", Items: list(a), Order: []api.Order{{N: 1}}, Limit: -1}},
		{"select a from t order by 16 desc, 2, 2 desc limit 2147483648", api.Stmt{Kind: 7, Table: "t", Items: list(a), Order: []api.Order{{N: 16, Desc: true}, {N: 2}, {N: 2, Desc: true}}, Limit: 1 << 31}},
		{"select sum(a * b), max(c) from t join u on true where a > 1 group by a order by 1 desc, 2 limit 3", api.Stmt{Kind: 7, Table: "t", Items: list(op(sum, op(mul, a, b)), op(maxOf, c)),
			Join: "u", On: list(yes()), Where: list(op(above, a, one)), Group: list(a), Order: []api.Order{{N: 1, Desc: true}, {N: 2}}, Limit: 3}},
		{"begin", api.Stmt{Kind: 8}},
		{"commit", api.Stmt{Kind: 9}},
		{"rollback", api.Stmt{Kind: 10}},
	}
}

func TestP51ParseOrdinary(t *testing.T) {
	next := rolled(1)
	for _, o := range ordinary() {
		parses(t, o.s, o.x)
		parses(t, o.s+";", o.x)
		parses(t, "\n "+o.s+" ; -- done", o.x)
		for range 50 {
			parses(t, spelled(next, wordsOf(o.s)), o.x)
			parses(t, spelled(next, append(wordsOf(o.s), ";")), o.x)
		}
		print, _ := syntax.Print(o.x)
		parses(t, print, o.x)
		parses(t, strings.ToLower(print), o.x)
	}
}

func TestP51NamesAndTextsInCases(t *testing.T) {
	parses(t, "SELECT Aa, 'Aa', SELECTS FROM T_1 JOIN Uu ON Uu.Bb GROUP BY t_1.AA", api.Stmt{Kind: 7, Table: "t_1", Items: list(col("aa"), text("Aa"), col("selects")),
		Join: "uu", On: list(colOf("uu", "bb")), Group: list(colOf("t_1", "aa")), Limit: -1})
	parses(t, "cReAtE iNdEx InD oN T (C)", api.Stmt{Kind: 2, Index: "ind", Table: "t", Key: "c"})
	parses(t, "create table TT (KEYS Int Not Null, primary Key (KEYs));", api.Stmt{Kind: 1, Table: "tt", Columns: []api.Column{{Name: "keys", Kind: 1, NotNull: true}}, Key: "keys"})
	parses(t, "insert into t values('select from'),(';'),('--'),('''')", api.Stmt{Kind: 4, Table: "t", Rows: rowsOf(list(text("select from")), list(text(";")), list(text("--")), list(text("'")))})
}

func TestP51MoreParentheses(t *testing.T) {
	a, b := col("a"), col("b")
	parsesExpr(t, "a + b * a", op(add, a, op(mul, b, a)))
	for n := 1; n <= 32; n++ {
		open, end := strings.Repeat("(", n), strings.Repeat(")", n)
		parsesExpr(t, open+"a"+end, a)
		parsesExpr(t, open+"a + b"+end+" * "+open+"a"+end, op(mul, op(add, a, b), a))
		parses(t, "insert into t values ("+open+"a"+end+", a)", api.Stmt{Kind: 4, Table: "t", Rows: rowsOf(list(a, a))})
		parses(t, "update t set c = "+open+"a = b"+end+" where"+open+"a"+end, api.Stmt{Kind: 5, Table: "t", Sets: []api.Set{{Name: "c", Expr: op(equal, a, b)}}, Where: list(a)})
		parses(t, "select "+open+"a"+end+" from t join u on"+open+"b"+end+"group by "+open+"t.a"+end, api.Stmt{Kind: 7, Table: "t", Items: list(a), Join: "u", On: list(b), Group: list(colOf("t", "a")), Limit: -1})
	}
}

func TestP51WhatLexRefuses(t *testing.T) {
	long := strings.Repeat("a", 17)
	for _, s := range []string{
		"^@", "begin ^@", "select a from ^#t", "drop table ^" + long, "^" + long, "select ^'a", "select ^'''", "drop ^:",
		"select ^9223372036854775808", "select -^9223372036854775808 from t", "select a from t where a = ^'" + strings.Repeat("x", 65) + "'",
		"a b c ^!", "; ; ^\x00", strings.Repeat("(", 100) + "^$", strings.Repeat("not ", 33) + "^%",
	} {
		text, at := marked(s)
		refuses(t, text, at, api.ErrLex)
		refusesExpr(t, text, at, api.ErrLex)
	}
	many := strings.Repeat("a ", 400)
	refuses(t, many+"a", 800, api.ErrCount)
	refusesExpr(t, strings.Repeat("(", 401), 400, api.ErrCount)
	refuses(t, many, 0, api.ErrSyntax)
	refusesExpr(t, many, 2, api.ErrSyntax)
	for _, n := range []int{2049, 3000, 1 << 20} {
		refuses(t, strings.Repeat(" ", n), 0, api.ErrLong)
		refusesExpr(t, strings.Repeat("@", n), 0, api.ErrLong)
	}
	refuses(t, strings.Repeat(" ", 2048), 2048, api.ErrSyntax)
	parses(t, strings.Repeat(" ", 2048-5)+"begin", api.Stmt{Kind: 8})
	parsesExpr(t, "a"+strings.Repeat(" ", 2047), col("a"))
}

// What has the form of a statement, but may not be, is told with how many octets the text has.
func TestP51WhatCheckRefuses(t *testing.T) {
	times := func(s string, n int) string { return strings.Repeat(s+", ", n-1) + s }
	table := func(n int) string { return "create table t (" + times("a int", n) + ", primary key (a))" }
	for _, x := range []struct {
		s     string
		fault api.Errno
	}{
		{table(8), api.OK},
		{table(9), api.ErrState},
		{table(40), api.ErrState},
		{"insert into t values " + times("(1)", 16), api.OK},
		{"insert into t values " + times("(1)", 17), api.ErrState},
		{"insert into t values " + times("(1)", 99), api.ErrState},
		{"insert into t values (" + times("1", 8) + ")", api.OK},
		{"insert into t values (" + times("1", 9) + ")", api.ErrState},
		{"insert into t values (1), (" + times("1", 100) + ")", api.ErrState},
		{"update t set " + times("a = 1", 8), api.OK},
		{"update t set " + times("a = 1", 9), api.ErrState},
		{"select " + times("1", 16) + " from t", api.OK},
		{"select " + times("1", 17) + " from t", api.ErrState},
		{"select a from t order by " + times("1", 8), api.OK},
		{"select a from t order by " + times("1", 9), api.ErrState},
		{"select a from t order by 0", api.ErrState},
		{"select a from t order by 1, 16", api.OK},
		{"select a from t order by 1, 17", api.ErrState},
		{"select a from t order by 9223372036854775807 desc", api.ErrState},
		{"select a from t limit 2147483648", api.OK},
		{"select a from t limit 2147483649", api.ErrState},
		{"select a from t limit 9223372036854775807", api.ErrState},
		{"select a from t where " + strings.Repeat("not ", 11) + "a", api.OK},
		{"select a from t where " + strings.Repeat("not ", 12) + "a", api.ErrDeep},
		{"delete from t where " + strings.Repeat("a + ", 11) + "a", api.OK},
		{"delete from t where " + strings.Repeat("a + ", 12) + "a", api.ErrDeep},
		{"insert into t values (" + strings.Repeat("a * ", 150) + "a)", api.ErrDeep},
		// The form goes ahead of the expressions.
		{"select " + strings.Repeat("- ", 12) + "a from t limit 2147483649", api.ErrState},
	} {
		for _, end := range []string{"", ";", " ; -- end", "\n"} {
			s := x.s + end
			if x.fault != api.OK {
				refuses(t, s, len(s), x.fault)
			} else if y, at, e := parse.Parse(s); syntax.Check(y) != api.OK || at != len(s) || e != api.OK {
				t.Errorf("Parse(%q) = %#v, %d, %d", s, y, at, e)
			}
		}
	}
}
