package parse_test

import (
	"strings"
	"testing"

	"switchback/api"
	"switchback/parse"
)

// A nest puts an expression one deeper: what stands ahead of it and behind it. Where it adds no part to the tree, ahead is a parenthesis.
type nest struct {
	ahead, behind string
}

func nests() []nest {
	return []nest{{"(", ")"}, {"- ", ""}, {"not ", ""}, {"count(", ")"}, {"sum(", ")"}, {"min(", ")"}, {"MAX (", ")"}, {"NOT\n", ""}, {"-\t", ""}}
}

func (x nest) times(n int, inmost string) string {
	return strings.Repeat(x.ahead, n) + inmost + strings.Repeat(x.behind, n)
}

// told is the error of an expression that has the form of one, so deep that it may not be.
func told(x nest) api.Errno {
	if x.ahead == "(" {
		return api.OK
	}
	return api.ErrDeep
}

func TestP51DeepOfOneKind(t *testing.T) {
	for _, x := range nests() {
		for _, inmost := range []string{"a", "1", "'x'", "null", "t.a"} {
			for n := 12; n <= 32; n++ {
				s := x.times(n, inmost)
				if _, at, e := parse.Expr(s); at != len(s) || e != told(x) {
					t.Errorf("Expr(%q) = %d, %d", s, at, e)
				}
			}
			for n := 33; n <= 60; n++ {
				refusesExpr(t, x.times(n, inmost), 32*len(x.ahead), api.ErrDeep)
			}
		}
		// The * is one deeper, too.
		s := x.times(31, "count(*)")
		if _, at, e := parse.Expr(s); at != len(s) || e != told(x) {
			t.Errorf("Expr(%q) = %d, %d", s, at, e)
		}
		refusesExpr(t, x.times(32, "count(*)"), 32*len(x.ahead), api.ErrDeep)
		refusesExpr(t, x.times(33, "count(*)"), 32*len(x.ahead), api.ErrDeep)
	}
}

func TestP51DeepInStatements(t *testing.T) {
	for _, place := range [][2]string{
		{"select ", " from t"}, {"select a, ", " from t"}, {"select a from t join u on ", ""}, {"select a from t where ", ";"}, {"delete from t where ", ""},
		{"update t set c = ", ""}, {"update t set c = a = ", " where a"}, {"update t set c = 1 where ", ""}, {"insert into t values (", ")"}, {"insert into t values (1), (2, ", ", 3)"},
	} {
		for _, x := range nests() {
			if strings.EqualFold(x.ahead[:1], "n") && strings.HasSuffix(place[0], "a = ") { // no NOT behind a comparison
				continue
			}
			s := place[0] + x.times(32, "a") + place[1]
			if y, at, e := parse.Parse(s); at != len(s) || e != told(x) || e != api.OK && !zeroStmt(y) {
				t.Errorf("Parse(%q) = %d, %d", s, at, e)
			}
			refuses(t, place[0]+x.times(33, "a")+place[1], len(place[0])+32*len(x.ahead), api.ErrDeep)
		}
	}
	group := "select a from t group by "
	refuses(t, group+nest{"(", ")"}.times(33, "a"), len(group)+32, api.ErrDeep)
}

// Kinds within each other count together; the place is that of the token that asks for the 33rd.
func TestP51DeepOfKindsTogether(t *testing.T) {
	next := rolled(3)
	for range 5000 {
		var s strings.Builder
		end, at, last := "", 0, ""
		for n := range 33 + next(20) {
			x := nests()[next(len(nests()))]
			isNot := strings.EqualFold(x.ahead[:1], "n")
			if last == "-" && isNot { // what stands behind a - is stronger than NOT
				x, isNot = nest{"(", ")"}, false
			}
			// What is beside it is not around it; behind a - the * would be around both.
			if last != "-" && !isNot && next(3) == 0 {
				beside := []string{"a * ", "1 + 'x' / ", "sum(-(a)) / ", "(-(-(-(a)))) * "}
				s.WriteString(beside[next(4-2*min(n/24, 1))]) // so that none of these is too deep itself
			}
			if n == 32 {
				at = s.Len()
			}
			s.WriteString(x.ahead)
			end, last = x.behind+end, x.ahead[:1]
		}
		refusesExpr(t, s.String()+"a"+end, at, api.ErrDeep)
		if t.Failed() {
			return
		}
	}
}

// What has ended is not around what comes behind it.
func TestP51DeepBesideEachOther(t *testing.T) {
	deep := nest{"(", ")"}.times(32, "a")
	parsesExpr(t, deep+" + "+deep+" * "+deep, op(add, col("a"), op(mul, col("a"), col("a"))))
	row := strings.Repeat("(a), -a, not(a), count(a), ", 2)
	s := "insert into t values " + strings.Repeat("("+row[:len(row)-2]+"), ", 6) + "(" + deep + ", count(*), " + nest{"not ", ""}.times(11, "a") + ")"
	if x, at, e := parse.Parse(s); len(x.Rows) != 7 || at != len(s) || e != api.OK {
		t.Errorf("Parse(%q) = %#v, %d, %d", s, x, at, e)
	}
	refusesExpr(t, deep+" + ("+deep+")", len(deep)+3+32, api.ErrDeep)
	refusesExpr(t, "(a) = "+deep+" and -("+nest{"- ", ""}.times(31, "a")+")", 6+len(deep)+5+2+60, api.ErrDeep)
	// A statement's own parentheses hold no expression.
	parses(t, "insert into t values ("+deep+")", api.Stmt{Kind: 4, Table: "t", Rows: rowsOf(list(col("a")))})
	// An aggregate's own are those of its one Arg.
	parsesExpr(t, "sum("+nest{"(", ")"}.times(31, "a")+")", op(sum, col("a")))
	refusesExpr(t, "sum("+deep+")", 4+31, api.ErrDeep)
}

// Too deep goes ahead of words that are no statement: where a token asks for what is too deep, nothing behind it counts. But what is at fault ahead of it does.
func TestP51DeepAheadOfSyntax(t *testing.T) {
	open := strings.Repeat("(", 32)
	for _, s := range []string{
		"^(", "^()", "^(;", "^not", "^not )", "^-", "^- -", "^-)", "^count", "^count)", "^count a", "^sum", "^sum(", "^sum(*)", "^min max", "^max;", "a + ^(", "a * ^-", "a and ^not", "a or ^not", "a = ^count",
	} {
		text, at := marked(s)
		refusesExpr(t, open+text, 32+at, api.ErrDeep)
		refuses(t, "delete from t where "+open+text, 20+32+at, api.ErrDeep)
	}
	for _, s := range []string{"^)", "a ^(", "a ^not", "a ^count", "1 ^sum(a)", "a + ^not b", "a = ^not b", "a) ^(", "a) ^count", "a.^count", "a ^b) (", "^* (", "a is ^(", "a is not ^not"} {
		text, at := marked(s)
		refusesExpr(t, open+text, 32+at, api.ErrSyntax)
	}
	refusesExpr(t, "a b "+nest{"(", ")"}.times(40, "a"), 2, api.ErrSyntax)
	refuses(t, "select from t where "+nest{"(", ")"}.times(40, "a"), 7, api.ErrSyntax)
	refusesExpr(t, nest{"(", ")"}.times(33, "a")+" b", 32, api.ErrDeep)
	refusesExpr(t, strings.Repeat("(", 400), 32, api.ErrDeep)
	refusesExpr(t, strings.Repeat("not ", 400), 32*4, api.ErrDeep)
	refusesExpr(t, strings.Repeat("- ", 400), 32*2, api.ErrDeep)
}
