package eval_test

import (
	"fmt"
	"testing"

	"switchback/api"
	"switchback/catalog"
	"switchback/check"
	"switchback/eval"
	"switchback/parse"
	"switchback/value"
)

// rolled answers numbers below a bound, the same each time.
func rolled(seed uint64) func(n int) int {
	return func(n int) int {
		seed = seed*6364136223846793005 + 1442695040888963407
		return int(seed >> 33 % uint64(n))
	}
}

// argsOf tells how many Args the ops from 0 to 17 have.
const argsOf = "001122222222222211"

// byChapter is a second reading of P8.1: what all Args are is asked ahead, and what is not asked for is laid aside.
func byChapter(e api.Expr, row []api.Value, level int) (api.Value, api.Errno) {
	if level == 13 {
		return null, api.ErrDeep
	}
	if e.Op < 0 || e.Op >= len(argsOf) {
		return null, api.ErrArg
	}
	if len(e.Args) != int(argsOf[e.Op]-'0') {
		return null, api.ErrCount
	}
	var l [2]api.Value
	var errs [2]api.Errno
	for i, arg := range e.Args {
		l[i], errs[i] = byChapter(arg, row, level+1)
	}
	if errs[0] != api.OK {
		return null, errs[0]
	}
	switch e.Op {
	case 0:
		return e.Value, api.OK
	case 1:
		for i, v := range row {
			if i == e.Value.N {
				return v, api.OK
			}
		}
		return null, api.ErrColumn
	case neg:
		return value.Neg(l[0])
	case not:
		return value.Not(l[0])
	case isNull:
		return is(l[0].Kind == 0), api.OK
	case isNotNull:
		return is(l[0].Kind != 0), api.OK
	}
	switch {
	case e.Op == and && l[0] == no:
		return no, api.OK
	case e.Op == or && l[0] == yes:
		return yes, api.OK
	case errs[1] != api.OK:
		return null, errs[1]
	case e.Op == and:
		return value.And(l[0], l[1])
	case e.Op == or:
		return value.Or(l[0], l[1])
	}
	return value.Reckon(e.Op, l[0], l[1])
}

func holds(t *testing.T, e api.Expr, row []api.Value, seen map[api.Errno]int) {
	t.Helper()
	want, wrong := byChapter(e, row, 1)
	seen[wrong]++
	if v, err := eval.Eval(e, row); v != want || err != wrong {
		t.Fatalf("Eval(%v, %v) = %v, %d, not %v, %d", e, row, v, err, want, wrong)
	}
	if wrong == api.OK && want.Kind != 0 && want.Kind != 2 {
		wrong = api.ErrType
	}
	if b, err := eval.True(e, row); b != (wrong == api.OK && want == yes) || err != wrong {
		t.Fatalf("True(%v, %v) = %t, %d, where it is %v, %d", e, row, b, err, want, wrong)
	}
}

// shortExprs are all expressions of few parts.
func shortExprs() []api.Expr {
	leaves := []api.Expr{lit(null), lit(no), lit(yes), lit(num(0)), lit(num(greatest)), lit(text("a")), lit(api.Value{Kind: 2, Text: "a"}), at(0), at(1), at(2), at(-1), op(countAll), op(-1), op(neg), op(isNull, lit(no), lit(no))}
	var l []api.Expr
	for o, args := range argsOf {
		if args == '1' {
			for _, e := range leaves {
				l = append(l, op(o, e))
			}
		}
	}
	all := append(l, leaves...)
	for o, args := range argsOf {
		for _, e := range all {
			if args == '1' {
				l = append(l, op(o, e))
			}
			for _, leaf := range leaves {
				if args == '2' {
					l = append(l, op(o, leaf, e), op(o, e, leaf))
				}
			}
		}
	}
	return append(l, leaves...)
}

func TestP81ShortExpressions(t *testing.T) {
	seen := map[api.Errno]int{}
	for _, e := range shortExprs() {
		for _, row := range [][]api.Value{nil, {no}, {null, num(1)}, {yes, num(-1), text("b")}} {
			holds(t, e, row, seen)
		}
	}
	for _, err := range []api.Errno{api.OK, api.ErrArg, api.ErrCount, api.ErrColumn, api.ErrType, api.ErrOver, api.ErrZero} {
		if seen[err] < 30 {
			t.Errorf("only %d expressions told %d", seen[err], err)
		}
	}
}

// rolledPart is an expression, mostly one whose kinds fit.
func rolledPart(next func(n int) int, kind int, levels int) api.Expr {
	if next(40) == 0 {
		kind = 1 + next(3)
	}
	if next(150) == 0 {
		return []api.Expr{op(countAll), op(-1), op(neg), {Args: make([]api.Expr, 1)}, at(9), at(-1), lit(wrong()[next(len(wrong()))])}[next(7)]
	}
	more := func(kind int) api.Expr { return rolledPart(next, kind, levels-1) }
	switch {
	case levels <= 1 || next(9) == 0 || kind == 3:
		return [...][]api.Expr{
			1: {lit(num(3)), lit(num(next(5) - 2)), at(0), at(1), lit(null)},
			2: {lit(yes), lit(no), at(2), at(3), lit(null)},
			3: {lit(text("a")), lit(text("b")), at(4), at(5), lit(null)},
		}[kind][next(5)]
	case kind == 1 && next(5) == 0:
		return op(neg, more(1))
	case kind == 1:
		return op(add+next(4), more(1), more(1))
	case next(5) == 0:
		return op(isNull+next(2), more(1+next(3)))
	case next(2) == 0:
		return op(and+next(2), more(2), more(2))
	case next(5) == 0:
		return op(not, more(2))
	}
	of := 1 + next(3)
	return op(equal+next(6), more(of), more(of))
}

func rolledRow(next func(n int) int) []api.Value {
	row := []api.Value{num(next(7) - 3), num(next(3) << 61), is(next(2) == 0), is(next(2) == 0), text("a"), text(fmt.Sprint(next(9)))}
	if next(3) == 0 {
		row[next(6)] = null
	}
	if next(40) == 0 {
		row[next(6)] = wrong()[next(len(wrong()))]
	}
	if next(20) == 0 {
		return row[:next(6)]
	}
	return row
}

func TestP81RolledExpressions(t *testing.T) {
	next := rolled(81)
	seen := map[api.Errno]int{}
	for range 60000 {
		e := rolledPart(next, 1+next(2), 1+next(8))
		for range next(10) / 2 * next(3) {
			e = op(neg+next(2), e)
			if next(2) == 0 {
				e = op(isNull, e)
			}
		}
		holds(t, e, rolledRow(next), seen)
	}
	for _, err := range []api.Errno{api.OK, api.ErrArg, api.ErrCount, api.ErrColumn, api.ErrType, api.ErrOver, api.ErrZero, api.ErrDeep} {
		if seen[err] < 100 {
			t.Errorf("only %d expressions told %d", seen[err], err)
		}
	}
}

// table is one of the columns a INT, b BOOL, c TEXT, n INT NOT NULL.
func table() catalog.Table {
	x, _, err := parse.Parse("create table t (a int, b bool, c text, n int not null, primary key (n))")
	if err != api.OK {
		panic(err)
	}
	s, err := catalog.Create(catalog.State{}, x)
	if err != api.OK {
		panic(err)
	}
	return s.Tables[0]
}

// resolved is the expression that a text is, over rows of that table.
func resolved(s string) api.Expr {
	e, _, err := parse.Expr(s)
	if err != api.OK {
		panic(fmt.Sprintf("%q is no expression: %d", s, err))
	}
	done, _, err := check.Expr([]catalog.Table{table()}, e, false)
	if err != api.OK {
		panic(fmt.Sprintf("%q is not resolved: %d", s, err))
	}
	return done
}

// What layers 5 and 7 make of texts, over a row: 6, true, 'it”s', -2.
func TestP81Texts(t *testing.T) {
	row := []api.Value{num(6), yes, text("it's"), num(-2)}
	for s, want := range map[string]api.Value{
		"null":                                   null,
		"c":                                      text("it's"),
		"t.a":                                    num(6),
		"a + n * 3":                              num(0),
		"(a + n) * 3":                            num(12),
		"-a / 4 - -n":                            num(-3),
		"a = 6 and c = 'it''s'":                  yes,
		"a > 6 or n >= -2":                       yes,
		"not b or a <> 6":                        no,
		"a < 7 and b and n <= -3":                no,
		"c < 'it' or c > 'z'":                    no,
		"a + null":                               null,
		"a = null or b":                          yes,
		"b and a = null":                         null,
		"(b and a = null) is null":               yes,
		"a is not null and c is null":            no,
		"b = (a > n)":                            yes,
		"a < 7 or 1 / (n + 2) = 1":               yes,
		"n + 2 <> 0 and a / (n + 2) > 1":         no,
		"9223372036854775807 - a * 1 + n + n":    num(greatest - 10),
		"-9223372036854775807 - 1 = n * 2":       no,
		"not (null and false) and not not (b=b)": yes,
	} {
		tells(t, s, resolved(s), row, want)
	}
	for s, want := range map[string]api.Errno{
		"null and 1 / 0 = 1 or c <> ''":    api.ErrZero,
		"a / (n + 2) > 1 and n + 2 <> 0":   api.ErrZero,
		"9223372036854775807 + a":          api.ErrOver,
		"-9223372036854775807 + n * a / a": api.ErrOver,
		"1 / 0 + (9223372036854775807+1)":  api.ErrZero,
		"(9223372036854775807+1) + 1 / 0":  api.ErrOver,
	} {
		refuses(t, s, resolved(s), row, want)
	}
	refuses(t, "a row of another table", resolved("n"), row[:3], api.ErrColumn)
	refuses(t, "a row of other kinds", resolved("a + n"), []api.Value{num(1), null, null, text("x")}, api.ErrType)
	for s, want := range map[string]bool{"b": true, "a = 6 and n = -2": true, "a is null": false, "null": false, "a = null": false, "not b": false} {
		if is, err := eval.True(resolved(s), row); is != want || err != api.OK {
			t.Errorf("True(%s) = %t, %d", s, is, err)
		}
	}
	if is, err := eval.True(resolved("a"), row); is || err != api.ErrType {
		t.Errorf("True(a) = %t, %d", is, err)
	}
}
