package parse_test

import (
	"strconv"
	"strings"
	"testing"

	"switchback/api"
	"switchback/parse"
	"switchback/syntax"
)

func TestP51ExprOneByOne(t *testing.T) {
	a, b, c, one := col("a"), col("b"), col("c"), num(1)
	for _, x := range []struct {
		s string
		e api.Expr
	}{
		{"NULL", null()}, {"nUlL", null()},
		{"0", num(0)}, {"258", num(258)}, {"007", num(7)}, {"9223372036854775807", num(greatest)}, {"00009223372036854775807", num(greatest)},
		{"true", yes()}, {"FALSE", no()},
		{"''", text("")}, {"'x'", text("x")}, {"'it''s'", text("it's")}, {"''''", text("'")}, {"'NULL'", text("NULL")}, {"'" + strings.Repeat("y", 64) + "'", text(strings.Repeat("y", 64))},
		{"a", a}, {"A", a}, {"t.a", colOf("t", "a")}, {"T . A", colOf("t", "a")}, {"_._", colOf("_", "_")}, {"abcdefghijklmnop.abcdefghijklmnop", colOf("abcdefghijklmnop", "abcdefghijklmnop")},
		{"-1", op(neg, one)}, {"- 1", op(neg, one)}, {"-a", op(neg, a)}, {"-t.a", op(neg, colOf("t", "a"))}, {"- -1", op(neg, op(neg, one))}, {"-(-1)", op(neg, op(neg, one))}, {"-0", op(neg, num(0))}, {"-'x'", op(neg, text("x"))},
		{"-9223372036854775807", op(neg, num(greatest))}, {"-9223372036854775807 - 1", op(sub, op(neg, num(greatest)), one)}, {"a--1", a}, {"a - -9223372036854775807", op(sub, a, op(neg, num(greatest)))},
		{"a-1", op(sub, a, one)}, {"a -1", op(sub, a, one)}, {"a- -1", op(sub, a, op(neg, one))}, {"a+-1", op(add, a, op(neg, one))}, {"-a - - 1", op(sub, op(neg, a), op(neg, one))},
		{"not a", op(not, a)}, {"not not true", op(not, op(not, yes()))}, {"NOT(a)", op(not, a)}, {"not -a", op(not, op(neg, a))},
		{"a is null", op(isNull, a)}, {"A IS NOT NULL", op(isNotNull, a)}, {"null is null", op(isNull, null())}, {"(a is null) is not null", op(isNotNull, op(isNull, a))}, {"-a is null", op(isNull, op(neg, a))},
		{"count(*)", op(countAll)}, {"Count ( * )", op(countAll)}, {"count(a)", op(count, a)}, {"sum(a)", op(sum, a)}, {"MIN(a)", op(minOf, a)}, {"mAx(t.a)", op(maxOf, colOf("t", "a"))},
		{"sum(a + 1)", op(sum, op(add, a, one))}, {"sum((a))", op(sum, a)}, {"count(count(*))", op(count, op(countAll))}, {"max(not a or b)", op(maxOf, op(or, op(not, a), b))}, {"count(*) * count(*)", op(mul, op(countAll), op(countAll))}, {"-count(*)", op(neg, op(countAll))},
		{"a + b * c", op(add, a, op(mul, b, c))}, {"a * b + c", op(add, op(mul, a, b), c)}, {"(a + b) * c", op(mul, op(add, a, b), c)},
		{"a - b - c", op(sub, op(sub, a, b), c)}, {"a - (b - c)", op(sub, a, op(sub, b, c))}, {"a / b * c", op(mul, op(div, a, b), c)}, {"a - b + c", op(add, op(sub, a, b), c)},
		{"not a = b and c", op(and, op(not, op(equal, a, b)), c)}, {"a or not b and c", op(or, a, op(and, op(not, b), c))}, {"not a is null", op(not, op(isNull, a))}, {"(not a) is null", op(isNull, op(not, a))},
		{"a = b and b = c", op(and, op(equal, a, b), op(equal, b, c))}, {"(a = b) = c", op(equal, op(equal, a, b), c)}, {"a = (b = c)", op(equal, a, op(equal, b, c))}, {"(a < b) is null", op(isNull, op(below, a, b))}, {"a < (b is null)", op(below, a, op(isNull, b))},
		{"a<=b", op(atMost, a, b)}, {"a>=b", op(atLeast, a, b)}, {"a<>b", op(unlike, a, b)}, {"a>-1", op(above, a, op(neg, one))}, {"a + 1 > b * 1", op(above, op(add, a, one), op(mul, b, one))},
		{"a or b or c", op(or, op(or, a, b), c)}, {"a or (b or c)", op(or, a, op(or, b, c))}, {"a and b or a and c", op(or, op(and, a, b), op(and, a, c))}, {"(a or b) and c", op(and, op(or, a, b), c)},
	} {
		parsesExpr(t, x.s, x.e)
		parsesExpr(t, "\t"+x.s+"\n", x.e)
		parsesExpr(t, "("+x.s+"\n)", x.e)
		parsesExpr(t, "( ("+x.s+"\n))", x.e)
		parses(t, "delete from t where "+x.s, api.Stmt{Kind: 6, Table: "t", Where: list(x.e)})
	}
}

// Each ^ stands ahead of the first token with which no expression begins, or at the end.
const expressionFaults = `
^; | ^) | ^, | ^. | ^* | ^/ | ^+ | ^= | ^<> | ^and | ^or | ^is | ^select | ^desc | ^primary | ^int | ^table
a^; | 1^; | a^;; | a ^b | a ^1 | a ^'x' | a ^(b) | a ^null | a ^not | a ^not b | a ^count(*) | a ^, b | 1 ^1 | 'x' ^'y' | 'x'^a | null ^null | true ^(a) | a ^desc | a ^from t
a.^ | a.^1 | a.^'b' | a.^(b) | a.^* | a.^- | a.b^.c | a.^count | 1^.a | 1^.1 | 'a'^.b | null^.a | (a)^.b | ^.a | count(*)^.a
-^ | - -^ | -^+ | -^) | -^* | -^, | -^and | - ^not a | a - ^not b | -^is null
not^ | not not^ | not ^) | not ^and | not ^= a | not ^is null | not ^; | not ^or a
a +^ | a -^ | a *^ | a /^ | a =^ | a <^ | a and^ | a or^ | a + ^) | a + ^+ b | a * ^* b | a + ^* b | a = ^= b | a < ^> b | a and ^and b | a or ^or b | a and ^or b | a and ^= b | a or ^is null | a and ^;
a = ^not b | a <> ^not b | a + ^not b | a * ^not b | a - ^not b | a / ^not b | a >= ^not (b)
a = b ^= c | a < b ^< c | a < b ^> c | a <= b ^<> c | a + b = c ^>= d | a = b + c ^= d | a = b ^is null | a is null ^is null | a is null ^= b | a is not null ^<> b | a is not null ^is not null | not a = b ^= c | (a = b ^= c) | a and b = c ^= d | a = b ^= c = d
a is null ^+ b | a is null ^* b | a is not null ^- b | a is null ^null | a = b ^a | a is null ^not
a is^ | a is ^a | a is ^1 | a is ^true | a is not^ | a is ^is | a is ^(null) | a is not ^not null | a is not ^true | a is not ^(null) | a is not ^a | a is ^= b | a is not ^;
(^ | ((^ | (^) | (a^ | ((a)^ | (a)^) | (a ^b) | (a^; | (^, a) | (a^, b) | (a +^ | (a + ^) | (not ^) | (-^) | (^; | (^and a) | (a)^(b) | (a.^1) | (^*)
count^ | count ^a | count ^* | count ^) | count ^; | count^. | count^.a | count(^ | count(^) | count(^; | count(*^ | count(* ^a) | count(* ^* a) | count(*^, a) | count(^, a) | count(a^ | count(a^, b) | count(a ^b) | count(a)^) | count(a)^(b) | count((^*)) | count(- ^*) | count(a ^; | count (a = b ^= c)
sum^ | sum ^a | sum(^ | sum(^) | sum(^*) | min(^*) | max(^*) | sum(a^ | sum(a^, b) | max(a * ^) | min((a)^ | min ^max(a) | sum(^* )
a.^count(a) | t.^sum
`

func TestP51SyntaxOfExpressions(t *testing.T) {
	refusesExpr(t, "", 0, api.ErrSyntax)
	refusesExpr(t, " \n ", 3, api.ErrSyntax)
	refusesExpr(t, "-- a", 4, api.ErrSyntax)
	for _, line := range strings.Split(strings.TrimSpace(expressionFaults), "\n") {
		for _, s := range strings.Split(line, " | ") {
			text, at := marked(s)
			refusesExpr(t, text, at, api.ErrSyntax)
			refusesExpr(t, strings.ToUpper(text), at, api.ErrSyntax)
			if !strings.Contains(text, ";") {
				ahead := "select a from t where "
				refuses(t, ahead+text, len(ahead)+at, api.ErrSyntax)
			}
		}
	}
}

type strength struct {
	signs []string
	ops   []int
}

// strengths are those of what stands between two, the least first.
func strengths() []strength {
	return []strength{
		{[]string{"or"}, []int{or}},
		{[]string{"and"}, []int{and}},
		{[]string{"=", "<>", "<", "<=", ">", ">="}, []int{equal, unlike, below, atMost, above, atLeast}},
		{[]string{"+", "-"}, []int{add, sub}},
		{[]string{"*", "/"}, []int{mul, div}},
	}
}

// signs calls f with each sign that stands between two, its op and its strength.
func signs(f func(sign string, n int, strong int)) {
	for strong, s := range strengths() {
		for i, sign := range s.signs {
			f(sign, s.ops[i], strong)
		}
	}
}

const comparisons = 2

func TestP51EachStrengthBesideEachOther(t *testing.T) {
	a, b, c := col("a"), col("b"), col("c")
	signs(func(first string, m int, strong int) {
		signs(func(second string, n int, stronger int) {
			ahead := "a " + first + " b "
			s := ahead + second + " c"
			switch {
			case strong == comparisons && stronger == comparisons:
				refusesExpr(t, s, len(ahead), api.ErrSyntax)
			case strong < stronger:
				parsesExpr(t, s, op(m, a, op(n, b, c)))
			default:
				parsesExpr(t, s, op(n, op(m, a, b), c))
			}
			parsesExpr(t, "(a "+first+" b) "+second+" c", op(n, op(m, a, b), c))
			parsesExpr(t, "a "+first+" (b "+second+" c)", op(m, a, op(n, b, c)))
		})
	})
}

func TestP51EachStrengthBesideWhatHasOne(t *testing.T) {
	a, b := col("a"), col("b")
	signs(func(sign string, n int, strong int) {
		s := "a " + sign + " "
		parsesExpr(t, "-"+s+"b", op(n, op(neg, a), b))
		parsesExpr(t, s+"-b", op(n, a, op(neg, b)))
		parsesExpr(t, "-("+s+"b)", op(neg, op(n, a, b)))
		parsesExpr(t, "(not a) "+sign+" b", op(n, op(not, a), b))
		parsesExpr(t, s+"(not b)", op(n, a, op(not, b)))
		parsesExpr(t, "(a is null) "+sign+" b", op(n, op(isNull, a), b))
		parsesExpr(t, "("+s+"b) is null", op(isNull, op(n, a, b)))
		if strong < comparisons {
			parsesExpr(t, "not "+s+"b", op(n, op(not, a), b))
			parsesExpr(t, s+"not b", op(n, a, op(not, b)))
			parsesExpr(t, "a is null "+sign+" b", op(n, op(isNull, a), b))
			parsesExpr(t, s+"b is not null", op(n, a, op(isNotNull, b)))
			return
		}
		parsesExpr(t, "not "+s+"b", op(not, op(n, a, b)))
		refusesExpr(t, s+"not b", len(s), api.ErrSyntax)
		refusesExpr(t, "a is null "+sign+" b", 10, api.ErrSyntax)
		if strong == comparisons {
			refusesExpr(t, s+"b is null", len(s)+2, api.ErrSyntax)
		} else {
			parsesExpr(t, s+"b is null", op(isNull, op(n, a, b)))
		}
	})
}

// A writer puts an expression with no more parentheses than it needs, and here and there some that it does not need.
type writer struct {
	next func(n int) int
	most int
}

// strengthOf an op: 7 of what needs no parentheses anywhere.
func strengthOf(n int) int {
	switch {
	case n == or:
		return 0
	case n == and:
		return 1
	case n == not:
		return 2
	case n >= equal && n <= atLeast || n == isNull || n == isNotNull:
		return 3
	case n == add || n == sub:
		return 4
	case n == mul || n == div:
		return 5
	case n == neg:
		return 6
	}
	return 7
}

// words writes e where a thing of that strength, or of more, may stand.
func (w writer) words(e api.Expr, least int) []string {
	l := w.bare(e)
	if strengthOf(e.Op) < least {
		l = append(append([]string{"("}, l...), ")")
	}
	for range w.next(w.most + 1) {
		l = append(append([]string{"("}, l...), ")")
	}
	return l
}

func (w writer) bare(e api.Expr) []string {
	strong := strengthOf(e.Op)
	join := func(parts ...[]string) []string {
		var l []string
		for _, p := range parts {
			l = append(l, p...)
		}
		return l
	}
	switch e.Op {
	case 0:
		return []string{[]string{"null", strconv.Itoa(e.Value.N), []string{"false", "true"}[e.Value.N&1], "'" + strings.ReplaceAll(e.Value.Text, "'", "''") + "'"}[e.Value.Kind]}
	case 1:
		if e.Table != "" {
			return []string{e.Table, ".", e.Name}
		}
		return []string{e.Name}
	case neg:
		return join([]string{"-"}, w.words(e.Args[0], strong))
	case not:
		return join([]string{"not"}, w.words(e.Args[0], strong))
	case isNull:
		return join(w.words(e.Args[0], strong+1), []string{"is", "null"})
	case isNotNull:
		return join(w.words(e.Args[0], strong+1), []string{"is", "not", "null"})
	case countAll:
		return []string{"count", "(", "*", ")"}
	case count, sum, minOf, maxOf:
		return join([]string{[]string{"count", "sum", "min", "max"}[e.Op-count], "("}, w.words(e.Args[0], 0), []string{")"})
	}
	sign := []string{"+", "-", "*", "/", "=", "<>", "<", "<=", ">", ">=", "and", "or"}[e.Op-add]
	left := strong
	if strong == 3 { // no two comparisons beside each other
		left = 4
	}
	return join(w.words(e.Args[0], left), []string{sign}, w.words(e.Args[1], strong+1))
}

// rolledExpr is an expression that may be, at most so deep.
func rolledExpr(next func(n int) int, deep int) api.Expr {
	leaves := list(null(), num(0), num(1), num(next(1000)), num(greatest), yes(), no(), text(""), text("it's"), text("a"), text("'"), col("a"), col("b"), col("x_1"), colOf("t", "a"), colOf("u", "b"), op(countAll))
	if deep <= 1 || next(5) == 0 {
		return leaves[next(len(leaves))]
	}
	n := 2 + next(21)
	var args []api.Expr
	for range argsOf(n) {
		args = append(args, rolledExpr(next, deep-1))
	}
	return op(n, args...)
}

// What is written of a tree is parsed as that tree, and from each of its prints.
func TestP51WrittenExpressions(t *testing.T) {
	next := rolled(2)
	checked := 0
	for i := range 40000 {
		e := rolledExpr(next, 1+next(7))
		words := writer{next, i % 3}.words(e, 0)
		if syntax.CheckExpr(e) != api.OK || len(words) > 300 {
			continue
		}
		s := spelled(next, words)
		if len(s) > api.MaxSource {
			continue
		}
		if _, _, f := parse.Expr(s); f == api.ErrDeep { // more parentheses than may be
			continue
		}
		checked++
		parsesExpr(t, s, e)
	}
	if checked < 30000 {
		t.Errorf("only %d expressions", checked)
	}
}

// All trees of three ops, one within the other, in each place.
func TestP51EachOpWithinEachOther(t *testing.T) {
	a, b, c := col("a"), num(2), col("c")
	none := func(n int) int { return 0 }
	within := func(n int, inner api.Expr) []api.Expr {
		switch argsOf(n) {
		case 0:
			return list(op(n))
		case 1:
			return list(op(n, inner))
		}
		return list(op(n, inner, b), op(n, c, inner), op(n, inner, inner))
	}
	for l := neg; l <= maxOf; l++ {
		for _, inmost := range within(l, a) {
			for m := neg; m <= maxOf; m++ {
				for _, inner := range within(m, inmost) {
					for n := neg; n <= maxOf; n++ {
						for _, e := range within(n, inner) {
							parsesExpr(t, strings.Join(writer{none, 0}.words(e, 0), " "), e)
						}
					}
				}
			}
		}
	}
}

func TestP51WhatCheckExprRefuses(t *testing.T) {
	sums := func(n int) string { return "a" + strings.Repeat(" + a", n) }
	// balanced is an expression of 2n - 1 parts, few within each other.
	var balanced func(n int) string
	balanced = func(n int) string {
		if n == 1 {
			return "a"
		}
		return "(" + balanced(n/2) + " + " + balanced(n-n/2) + ")"
	}
	for _, x := range []struct {
		s     string
		fault api.Errno
	}{
		{sums(11), api.OK},
		{sums(12), api.ErrDeep},
		{sums(150), api.ErrDeep},
		{strings.Repeat("- ", 11) + "a", api.OK},
		{strings.Repeat("- ", 12) + "a", api.ErrDeep},
		{strings.Repeat("not ", 11) + "a", api.OK},
		{strings.Repeat("not ", 12) + "a", api.ErrDeep},
		{strings.Repeat("sum(", 11) + "a" + strings.Repeat(")", 11), api.OK},
		{strings.Repeat("sum(", 12) + "a" + strings.Repeat(")", 12), api.ErrDeep},
		{strings.Repeat("count(", 11) + "*" + strings.Repeat(")", 11), api.OK},
		{balanced(32), api.OK},
		{"-" + balanced(32), api.OK},
		{"- -" + balanced(32), api.ErrCount},
		{balanced(33), api.ErrCount},
		{balanced(60), api.ErrCount},
		{balanced(33) + " = " + strings.Repeat("- ", 12) + "a", api.ErrCount},
		{strings.Repeat("- ", 12) + "a = " + balanced(33), api.ErrDeep},
	} {
		for _, end := range []string{"", "\n", " -- end"} {
			s := x.s + end
			if x.fault != api.OK {
				refusesExpr(t, s, len(s), x.fault)
			} else if e, at, f := parse.Expr(s); syntax.CheckExpr(e) != api.OK || at != len(s) || f != api.OK {
				t.Errorf("Expr(%q) = %#v, %d, %d", s, e, at, f)
			}
		}
	}
}
