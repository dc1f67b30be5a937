package check_test

import (
	"fmt"
	"testing"

	"switchback/api"
	"switchback/catalog"
	"switchback/check"
	"switchback/syntax"
)

func resolvedText(s string) (api.Expr, int, api.Errno) {
	return check.Expr(tables("t"), expr(s), true)
}

func aggregates() map[int]api.Expr {
	return map[int]api.Expr{countAll: op(countAll), count: op(count, col("c")), sum: op(sum, col("n")), minOf: op(minOf, col("b")), maxOf: op(maxOf, col("a"))}
}

func TestP71AggregatesWhereTheyMayBe(t *testing.T) {
	places := map[int]int{count: 2, sum: 3, minOf: 1, maxOf: 0}
	kinds := map[int]int{countAll: 1, count: 1, sum: 1, minOf: 2, maxOf: 1}
	for n, e := range aggregates() {
		done := op(n)
		if n != countAll {
			done = op(n, at(places[n]))
		}
		resolves(t, fmt.Sprint("op ", n), tables("t"), e, true, done, kinds[n])
		resolves(t, fmt.Sprint("within, op ", n), tables("t"), op(isNull, op(isNotNull, e)), true, op(isNull, op(isNotNull, done)), 2)
		resolves(t, fmt.Sprint("beside, op ", n), tables("t"), op(equal, e, e), true, op(equal, done, done), 2)
		refuses(t, fmt.Sprint("none may be, op ", n), tables("t"), e, false, api.ErrArg)
		refuses(t, fmt.Sprint("none may be within, op ", n), tables("t"), op(isNull, op(isNotNull, e)), false, api.ErrArg)
		refuses(t, fmt.Sprint("none may be beside, op ", n), tables("t"), op(equal, num(1), e), false, api.ErrArg)
	}
	// What is behind an aggregate is not within it.
	resolves(t, "one behind another", tables("t"), expr("sum(a) + (sum(n) + count(*))"), true, op(add, op(sum, at(0)), op(add, op(sum, at(3)), op(countAll))), 1)
}

func TestP71AggregatesWithinOneAnother(t *testing.T) {
	for n := count; n <= maxOf; n++ {
		for m, e := range aggregates() {
			for _, may := range []bool{false, true} {
				refuses(t, fmt.Sprint("op ", m, " in ", n), tables("t"), op(n, e), may, api.ErrArg)
				refuses(t, fmt.Sprint("op ", m, " deep in ", n), tables("t"), op(n, op(isNull, op(isNull, e))), may, api.ErrArg)
				refuses(t, fmt.Sprint("op ", m, " beside in ", n), tables("t"), op(n, op(equal, col("a"), op(count, e))), may, api.ErrArg)
			}
		}
	}
}

// What is told first: parts in their order, Args ahead of what they are Args of; of one part ErrTable, ErrColumn, ErrType, ErrArg.
func TestP71WhichErrorGoesAhead(t *testing.T) {
	for s, want := range map[string]api.Errno{
		"x.a + nowhere":               api.ErrTable,
		"nowhere + x.a":               api.ErrColumn,
		"x.nowhere":                   api.ErrTable,
		"(a + c) + x.a":               api.ErrType,
		"x.a + (a + c)":               api.ErrTable,
		"(a + c) + nowhere":           api.ErrType,
		"a + (c + nowhere)":           api.ErrColumn, // ahead of the kinds of both that it stands in
		"c + (c + x.a)":               api.ErrTable,
		"c + nowhere":                 api.ErrColumn,
		"not (a = (c and x.a))":       api.ErrTable,
		"sum(c)":                      api.ErrType, // of one part ahead of ErrArg
		"sum(x.a)":                    api.ErrTable,
		"sum(nowhere)":                api.ErrColumn,
		"sum(a + c)":                  api.ErrType,
		"count(*) + x.a":              api.ErrArg,
		"x.a + count(*)":              api.ErrTable,
		"count(*) + c":                api.ErrArg,
		"c + count(*)":                api.ErrArg,
		"count(*) and true":           api.ErrArg,
		"(a and b) = count(*)":        api.ErrType,
		"count(*) = (a and b)":        api.ErrArg,
		"sum(min(c))":                 api.ErrArg, // the Arg's, ahead of its own kind
		"sum(sum(c))":                 api.ErrType,
		"min(sum(b)) + x.a":           api.ErrType,
		"min(a) + sum(c)":             api.ErrArg,
		"sum(c) + min(a)":             api.ErrType,
		"max(a) and nowhere is null":  api.ErrArg,
		"nowhere is null and max(a)":  api.ErrColumn,
		"-c = x.a":                    api.ErrType,
		"x.a = -c":                    api.ErrTable,
		"'x' + 1 = (select_ + 1)":     api.ErrType,
		"(1 = 'x') = (nowhere = x.a)": api.ErrType,
	} {
		refuses(t, s, tables("t"), expr(s), false, want)
	}
	for s, want := range map[string]api.Errno{
		"sum(c) + x.a":            api.ErrType,
		"sum(a) + x.a":            api.ErrTable,
		"count(count(x.a))":       api.ErrTable,
		"count(count(nowhere))":   api.ErrColumn,
		"count(sum(c))":           api.ErrType,
		"sum(max(c)) + nowhere":   api.ErrArg,
		"nowhere + sum(max(c))":   api.ErrColumn,
		"sum(count(*) + x.a)":     api.ErrArg,
		"sum(x.a + count(*))":     api.ErrTable,
		"sum(c + count(*))":       api.ErrArg,
		"sum((a + c) + count(*))": api.ErrType,
		"count(*) and count(c)":   api.ErrType,
	} {
		refuses(t, s, tables("t"), expr(s), true, want)
	}
	refuses(t, "a of both", tables("t", "u"), expr("a + x.a"), false, api.ErrColumn)
	refuses(t, "a of both", tables("t", "u"), expr("x.a + a"), false, api.ErrTable)
}

// A part is one of an expression's, as they come, Args first.
type part struct {
	e        api.Expr
	withinIt int // how many aggregates it stands in
}

func parts(e api.Expr, within int, l []part) []part {
	inner := within
	if e.Op >= countAll {
		inner++
	}
	for _, arg := range e.Args {
		l = parts(arg, inner, l)
	}
	return append(l, part{e, within})
}

// book has, for each way to name a column, the places and kinds that it may be.
func book(scope []catalog.Table) (map[string][][2]int, map[string]bool) {
	names, seen := map[string][][2]int{}, map[string]bool{}
	place := 0
	for _, x := range scope {
		for _, c := range x.Columns {
			names["."+c.Name] = append(names["."+c.Name], [2]int{place, c.Kind})
			if !seen[x.Name] {
				names[x.Name+"."+c.Name] = append(names[x.Name+"."+c.Name], [2]int{place, c.Kind})
			}
			place++
		}
		seen[x.Name] = true
	}
	return names, seen
}

// byParts is a second reading of P7.1, for tables that may be: parts one after another, over a pile of what was resolved.
func byParts(scope []catalog.Table, e api.Expr, may bool) (api.Expr, int, api.Errno) {
	if n := len(scope); n == 0 || n > 2 {
		return api.Expr{}, 0, api.ErrCount
	}
	if err := syntax.CheckExpr(e); err != api.OK {
		return api.Expr{}, 0, err
	}
	names, known := book(scope)
	one, two := unary(), binary()
	var pile []api.Expr
	var kinds []int
	for _, p := range parts(e, 0, nil) {
		done, kind := api.Expr{Op: p.e.Op}, byte('1')
		n := len(kinds)
		switch {
		case p.e.Op == 0:
			done.Value, kind = p.e.Value, byte('0'+p.e.Value.Kind)
		case p.e.Op == 1:
			if p.e.Table != "" && !known[p.e.Table] {
				return api.Expr{}, 0, api.ErrTable
			}
			l := names[p.e.Table+"."+p.e.Name]
			if len(l) != 1 {
				return api.Expr{}, 0, api.ErrColumn
			}
			done, kind = at(l[0][0]), byte('0'+l[0][1])
		case p.e.Op == countAll:
		case len(p.e.Args) == 1:
			kind = one[p.e.Op][kinds[n-1]]
			done.Args, pile, kinds = []api.Expr{pile[n-1]}, pile[:n-1], kinds[:n-1]
		default:
			kind = two[p.e.Op][kinds[n-2]*5+kinds[n-1]]
			done.Args, pile, kinds = []api.Expr{pile[n-2], pile[n-1]}, pile[:n-2], kinds[:n-2]
		}
		if kind == '.' {
			return api.Expr{}, 0, api.ErrType
		}
		if p.e.Op >= countAll && (!may || p.withinIt > 0) {
			return api.Expr{}, 0, api.ErrArg
		}
		pile, kinds = append(pile, done), append(kinds, int(kind-'0'))
	}
	return pile[0], kinds[0], api.OK
}

// rolledExpr is an expression, mostly one whose kinds fit, where it is asked for a kind.
func rolledExpr(next func(n int) int, kind int, levels int, aggregates bool) api.Expr {
	if next(25) == 0 {
		kind = 1 + next(3)
	}
	if levels <= 1 || next(4) == 0 {
		names := [...][]api.Expr{
			1: {num(3), col("n"), colOf("t", "a"), col("f"), expr("null")},
			2: {expr("true"), col("b"), col("e"), colOf("t", "b"), colOf("u", "e")},
			3: {expr("'x'"), col("c"), col("d"), colOf("u", "a"), expr("null")},
		}[kind]
		if next(40) == 0 {
			names = []api.Expr{col("nowhere"), colOf("x", "a"), colOf("t", "d"), colOf("u", "n"), col("a")}
		}
		return names[next(5)]
	}
	more := func(kind int) api.Expr { return rolledExpr(next, kind, levels-1, aggregates) }
	if aggregates && next(4) == 0 || next(60) == 0 {
		inner := func(kind int) api.Expr { return rolledExpr(next, kind, levels-1, false) }
		switch {
		case kind != 1:
			return op(minOf+next(2), inner(kind))
		case next(3) == 0:
			return op(countAll)
		case next(2) == 0:
			return op(count, inner(1+next(3)))
		}
		return op(sum+next(3), inner(1))
	}
	switch {
	case kind == 1 && next(5) == 0:
		return op(neg, more(1))
	case kind == 1:
		return op(add+next(4), more(1), more(1))
	case kind == 3:
		return rolledExpr(next, 3, 1, aggregates)
	case next(5) == 0:
		return op(isNull+next(2), more(1+next(3)))
	case next(3) == 0:
		return op(and+next(2), more(2), more(2))
	case next(5) == 0:
		return op(not, more(2))
	}
	of := 1 + next(3)
	return op(equal+next(6), more(of), more(of))
}

func TestP71ByParts(t *testing.T) {
	next := rolled(7)
	seen := map[api.Errno]int{}
	scopes := [][]catalog.Table{tables("t"), tables("u"), tables("t", "u"), tables("u", "t"), tables("t", "u"), tables("u", "one"), tables("wide", "t"), tables("t", "t"), tables("t", "u", "one"), nil}
	for range 60000 {
		scope, may := scopes[next(len(scopes))], next(2) == 0
		if next(4) > 0 {
			scope = scopes[2+next(2)]
		}
		e := rolledExpr(next, 1+next(3), 1+next(8), may)
		want, kind, wrong := byParts(scope, e, may)
		seen[wrong]++
		if got, k, err := check.Expr(scope, e, may); !same(got, want) || k != kind || err != wrong {
			t.Fatalf("Expr(%v, %v) = %v, %d, %d, not %v, %d, %d", e, may, got, k, err, want, kind, wrong)
		}
	}
	for _, err := range []api.Errno{api.OK, api.ErrCount, api.ErrTable, api.ErrColumn, api.ErrType, api.ErrArg} {
		if seen[err] < 1000 {
			t.Errorf("only %d expressions told %d", seen[err], err)
		}
	}
}

// shortExprs are all expressions of few parts.
func shortExprs() []api.Expr {
	leaves := []api.Expr{expr("null"), num(1), expr("true"), expr("'x'"), col("a"), col("b"), colOf("u", "a"), colOf("x", "a"), col("nowhere"), op(countAll)}
	var l []api.Expr
	for n := range unary() {
		for _, e := range leaves {
			l = append(l, op(n, e))
		}
	}
	all := append(l, leaves...)
	for n := range binary() {
		for _, a := range leaves {
			for _, b := range all {
				l = append(l, op(n, a, b), op(n, b, a))
			}
		}
	}
	for n := range unary() {
		for _, e := range all {
			l = append(l, op(n, e))
		}
	}
	return append(l, leaves...)
}

func TestP71ShortExpressions(t *testing.T) {
	l := shortExprs()
	for _, scope := range [][]catalog.Table{tables("t"), tables("t", "u"), tables("u", "t")} {
		for _, e := range l {
			for _, may := range []bool{false, true} {
				want, kind, wrong := byParts(scope, e, may)
				if got, k, err := check.Expr(scope, e, may); !same(got, want) || k != kind || err != wrong {
					t.Fatalf("Expr(%v, %v) = %v, %d, %d, not %v, %d, %d", e, may, got, k, err, want, kind, wrong)
				}
			}
		}
	}
}
