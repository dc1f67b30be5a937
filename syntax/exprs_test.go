package syntax_test

import (
	"reflect"
	"strings"
	"testing"

	"switchback/api"
	"switchback/syntax"
)

func fault(t *testing.T, name string, e api.Expr, want api.Errno) {
	t.Helper()
	if got := syntax.CheckExpr(e); got != want {
		t.Errorf("%s: CheckExpr = %d, not %d", name, got, want)
	}
	if s, got := syntax.PrintExpr(e); got != want || (s == "") != (want != api.OK) {
		t.Errorf("%s: PrintExpr = %.80q, %d, not %d", name, s, got, want)
	}
	x := api.Stmt{Kind: 6, Table: "t", Where: list(e)}
	if got := syntax.Check(x); got != want {
		t.Errorf("%s: Check of it as a Where = %d, not %d", name, got, want)
	}
	if s, got := syntax.Print(x); got != want || (s == "") != (want != api.OK) {
		t.Errorf("%s: Print of it as a Where = %.80q, %d, not %d", name, s, got, want)
	}
	if syntax.Same(x, x) != (want == api.OK) {
		t.Errorf("%s: Same of it as a Where and itself = %v", name, want != api.OK)
	}
}

func TestP41Literals(t *testing.T) {
	for _, v := range []api.Value{{}, {Kind: 1}, {Kind: 1, N: 1}, {Kind: 1, N: greatest}, {Kind: 2}, {Kind: 2, N: 1}, {Kind: 3}, {Kind: 3, Text: "'"}, {Kind: 3, Text: strings.Repeat("a", 64)}, {Kind: 3, Text: "\x00\xff\n"}} {
		fault(t, "a value that may be", lit(v), api.OK)
	}
	for _, v := range []api.Value{
		{Kind: 1, N: -1}, {Kind: 1, N: -7}, {Kind: 1, N: least}, // numbers below 0
		{Kind: -1}, {Kind: 4}, {Kind: least}, {Kind: greatest}, {N: 1}, {N: -1}, {Text: "a"}, {Kind: 1, Text: "1"}, {Kind: 2, N: 2}, {Kind: 2, N: -1}, {Kind: 2, Text: "a"}, {Kind: 3, N: 1}, {Kind: 3, Text: strings.Repeat("a", 65)},
	} {
		fault(t, "a value that may not be", lit(v), api.ErrState)
		fault(t, "a value that may not be, within", op(or, yes(), op(not, lit(v))), api.ErrState)
	}
	for name, e := range map[string]api.Expr{
		"a literal's Table": {Table: "t"},
		"a literal's Name":  {Name: "a", Value: api.Value{Kind: 1}},
		"a literal's Args":  {Value: api.Value{Kind: 1}, Args: list(num(1))},
	} {
		fault(t, name, e, api.ErrState)
	}
	fault(t, "empty Args", api.Expr{Args: []api.Expr{}}, api.OK)
}

func TestP41Columns(t *testing.T) {
	for _, e := range []api.Expr{col("a"), colOf("t", "a"), colOf("a", "a"), col("_"), col(strings.Repeat("a", 16)), colOf(strings.Repeat("a", 16), "b"), {Op: 1, Name: "a", Args: []api.Expr{}}} {
		fault(t, "a column that may be", e, api.OK)
	}
	for _, s := range []string{"", "1", "1a", "A", "a.b", "a b", "select", "max", "true", "text", "\u00e9", strings.Repeat("a", 17)} {
		fault(t, "the name "+s, col(s), api.ErrState)
		fault(t, "the name "+s+" in a table", colOf("t", s), api.ErrState)
		if s != "" {
			fault(t, "the table "+s, colOf(s, "a"), api.ErrState)
		}
	}
	for name, e := range map[string]api.Expr{
		"a column's Kind": {Op: 1, Name: "a", Value: api.Value{Kind: 1}},
		"a column's N":    {Op: 1, Name: "a", Value: api.Value{N: 1}},
		"a column's Text": {Op: 1, Name: "a", Value: api.Value{Text: "a"}},
		"a column's Args": {Op: 1, Name: "a", Args: list(col("a"))},
		"a place alone":   {Op: 1, Value: api.Value{Kind: 1, N: 2}},
	} {
		fault(t, name, e, api.ErrState)
	}
}

func TestP41ArgsOfEachOp(t *testing.T) {
	for n := 2; n <= 22; n++ {
		for k := range 5 {
			want := api.ErrState
			if k == argsOf(n) {
				want = api.OK
			}
			fault(t, "an op's Args", op(n, repeat(col("a"), k)...), want)
			fault(t, "an op's Args, within", op(not, op(n, repeat(col("a"), k)...)), want)
		}
		for name, change := range map[string]func(e *api.Expr){
			"Table":      func(e *api.Expr) { e.Table = "t" },
			"Name":       func(e *api.Expr) { e.Name = "a" },
			"Value.Kind": func(e *api.Expr) { e.Value.Kind = 1 },
			"Value.N":    func(e *api.Expr) { e.Value.N = 1 },
			"Value.Text": func(e *api.Expr) { e.Value.Text = "a" },
		} {
			e := op(n, repeat(col("a"), argsOf(n))...)
			change(&e)
			fault(t, "an op's "+name, e, api.ErrState)
		}
	}
	for _, n := range []int{least, -1 << 32, -2, -1, 23, 24, 100, 1 << 32, 1<<32 + 4, greatest} {
		for k := range 3 {
			fault(t, "an op that is none", op(n, repeat(col("a"), k)...), api.ErrState)
			fault(t, "an op that is none, within", op(neg, op(n, repeat(col("a"), k)...)), api.ErrState)
		}
	}
}

func TestP41HowDeep(t *testing.T) {
	for n := 1; n <= 12; n++ {
		fault(t, "deep", deep(n), api.OK)
	}
	for _, n := range []int{13, 14, 64, 65, 1000} {
		fault(t, "too deep", deep(n), api.ErrDeep)
	}
	fault(t, "deep on the left", op(add, deep(11), num(1)), api.OK)
	fault(t, "too deep on the left", op(add, deep(12), num(1)), api.ErrDeep)
	fault(t, "deep on the right", op(add, num(1), deep(11)), api.OK)
	fault(t, "too deep on the right", op(add, num(1), deep(12)), api.ErrDeep)
	fault(t, "deep in an aggregate", op(sum, deep(11)), api.OK)
	fault(t, "too deep in an aggregate", op(sum, deep(12)), api.ErrDeep)
}

func TestP41HowManyParts(t *testing.T) {
	for n := 1; n <= 120; n++ {
		e := wide(n)
		if countParts(e) != n {
			t.Fatalf("wide(%d) has %d parts", n, countParts(e))
		}
		want := api.OK
		if n > 64 {
			want = api.ErrCount
		}
		fault(t, "wide", e, want)
	}
	fault(t, "31, 1 and 32", op(or, wide(31), wide(32)), api.OK)
	fault(t, "31, 1 and 33", op(or, wide(31), wide(33)), api.ErrCount)
}

// The first part that is at fault tells; of one part's faults ErrDeep, then ErrCount, then ErrState.
func TestP41TheFirstPartTells(t *testing.T) {
	bad := op(23)
	ofDeep := func(n int, last api.Expr) api.Expr { // n parts around it
		for range n {
			last = op(neg, last)
		}
		return last
	}
	for _, x := range []struct {
		name string
		e    api.Expr
		want api.Errno
	}{
		{"the 13th within each other, and the 65th", op(add, wide(52), ofDeep(11, num(1))), api.ErrDeep},
		{"the 12th within each other, and the 65th", op(add, wide(53), ofDeep(11, num(1))), api.ErrCount},
		{"the 13th within each other, and the 64th", op(add, wide(51), ofDeep(11, num(1))), api.ErrDeep},
		{"the 13th within each other, and no part", ofDeep(12, bad), api.ErrDeep},
		{"the 12th within each other, and no part", ofDeep(11, bad), api.ErrState},
		{"the 65th, and no part", op(add, wide(63), bad), api.ErrCount},
		{"the 64th, and no part", op(add, wide(62), bad), api.ErrState},
		{"no part, then too deep", op(add, bad, deep(20)), api.ErrState},
		{"too deep, then no part", op(add, deep(20), bad), api.ErrDeep},
		{"no part, then too many", op(add, bad, wide(70)), api.ErrState},
		{"too many, then no part", op(add, wide(70), bad), api.ErrCount},
		{"too deep, then too many", op(add, deep(20), wide(70)), api.ErrDeep},
		{"too many, then too deep", op(add, wide(70), deep(20)), api.ErrCount},
		{"no part around what is too deep", op(23, deep(20)), api.ErrState},
		{"no part around what has too many", op(23, wide(70)), api.ErrState},
		{"an Arg too many, ahead of what is too deep", op(neg, deep(20), num(1)), api.ErrState},
		{"an Arg too few, ahead of what is too deep", op(add, deep(20)), api.ErrState},
		{"a name around what is too deep", api.Expr{Op: neg, Name: "a", Args: list(deep(20))}, api.ErrState},
		{"too deep on the left, the part behind it no part", op(add, op(neg, deep(12)), bad), api.ErrDeep},
		{"no part on the way to what is too deep", op(neg, op(neg, op(23, deep(20)))), api.ErrState},
	} {
		fault(t, x.name, x.e, x.want)
	}
}

// An expression that is a part of itself is no tree, but nothing hangs on it, and nothing panics.
func TestP41PartsOfThemselves(t *testing.T) {
	alone := list(null())
	alone[0] = op(neg, alone...)
	fault(t, "neg of itself", alone[0], api.ErrDeep)
	left := list(null(), num(1))
	left[0] = op(add, left...)
	fault(t, "the left Arg is itself", left[0], api.ErrDeep)
	both := list(null(), null())
	both[0], both[1] = op(add, both...), op(add, both...)
	fault(t, "both Args are itself", both[0], api.ErrDeep)
	wrong := list(null(), null())
	wrong[0], wrong[1] = op(neg, wrong...), op(neg, wrong...)
	fault(t, "an Arg too many, itself", wrong[0], api.ErrState)
	e := col("a")
	for range 11 {
		e = op(add, e, e)
	}
	fault(t, "4095 parts of one memory", e, api.ErrCount)
	fault(t, "many Args", op(add, repeat(e, 100000)...), api.ErrState)
}

// byParts is a second reading of P4.1: all parts in a row first, then what is said of each.
func byParts(e api.Expr) api.Errno {
	type part struct {
		e    api.Expr
		deep int
	}
	todo := []part{{e, 1}}
	for n := 1; len(todo) > 0; n++ {
		p := todo[0]
		todo = todo[1:]
		if p.deep == 13 {
			return api.ErrDeep
		}
		if n == 65 {
			return api.ErrCount
		}
		if !partOf(p.e) {
			return api.ErrState
		}
		var args []part
		for _, arg := range p.e.Args {
			args = append(args, part{arg, p.deep + 1})
		}
		todo = append(args, todo...)
	}
	return api.OK
}

func partOf(e api.Expr) bool {
	if e.Op < 0 || e.Op > 22 || len(e.Args) != argsOf(e.Op) {
		return false
	}
	e.Args = nil
	v := e.Value
	switch e.Op {
	case 0:
		mayBe := v == api.Value{} || v.Kind == 1 && v.N >= 0 && v.Text == "" || v.Kind == 2 && v.N>>1 == 0 && v.Text == "" || v.Kind == 3 && v.N == 0 && len(v.Text) < 65
		return mayBe && reflect.DeepEqual(e, api.Expr{Value: v})
	case 1:
		return syntax.Name(e.Name) && (e.Table == "" || syntax.Name(e.Table)) && reflect.DeepEqual(e, api.Expr{Op: 1, Table: e.Table, Name: e.Name})
	}
	return reflect.DeepEqual(e, api.Expr{Op: e.Op})
}

// rolledExpr is an expression, mostly one that may be.
func rolledExpr(next func(n int) int, levels int) api.Expr {
	names := []string{"a", "b", "t", "_1", "abcdefghijklmnop"}
	if levels <= 1 || next(6) == 0 {
		switch next(7) {
		case 0:
			return null()
		case 1:
			return num([]int{0, 1, 12, greatest}[next(4)])
		case 2:
			return lit(api.Value{Kind: 2, N: next(2)})
		case 3:
			return text([]string{"", "'", "a", "it's", "''", ") AND (", "a' = 'b", "\x00\xff\n", strings.Repeat("'", 64)}[next(9)])
		case 4:
			return colOf(names[next(5)], names[next(5)])
		}
		return col(names[next(5)])
	}
	n := 2 + next(21)
	args := make([]api.Expr, argsOf(n))
	for i := range args {
		args[i] = rolledExpr(next, levels-1)
	}
	return op(n, args...)
}

// spoil changes something of some part.
func spoil(next func(n int) int, e *api.Expr) {
	for len(e.Args) > 0 && next(3) > 0 {
		e = &e.Args[next(len(e.Args))]
	}
	switch next(8) {
	case 0:
		e.Op = next(27) - 2
	case 1:
		e.Args = append(e.Args, col("a"))
	case 2:
		e.Args = nil
	case 3:
		e.Table = []string{"", "t", "A", "not"}[next(4)]
	case 4:
		e.Name = []string{"", "t", "9", "min"}[next(4)]
	case 5:
		e.Value.Kind = next(6) - 1
	case 6:
		e.Value.N = next(5) - 2
	default:
		e.Value.Text = []string{"", "t", strings.Repeat("t", 64), strings.Repeat("t", 65)}[next(4)]
	}
}

func TestP41ByParts(t *testing.T) {
	next := rolled(1)
	seen := map[api.Errno]int{}
	for i := range 60000 {
		e := rolledExpr(next, 1+next(14))
		for range i % 3 {
			spoil(next, &e)
		}
		want := byParts(e)
		seen[want]++
		if got := syntax.CheckExpr(e); got != want {
			t.Fatalf("CheckExpr(%#v) = %d, not %d", e, got, want)
		}
		if s, got := syntax.PrintExpr(e); got != want || got != api.OK && s != "" {
			t.Fatalf("PrintExpr(%#v) = %q, %d, not %d", e, s, got, want)
		}
	}
	for _, e := range []api.Errno{api.OK, api.ErrDeep, api.ErrCount, api.ErrState} {
		if seen[e] < 1000 {
			t.Errorf("only %d of %d expressions told %d", seen[e], 60000, e)
		}
	}
}
