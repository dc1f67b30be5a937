package plan_test

import (
	"fmt"
	"slices"
	"strings"
	"testing"

	"switchback/api"
	"switchback/catalog"
	"switchback/plan"
)

func refuses(t *testing.T, what string, of catalog.Table, where []api.Expr, want api.Errno) {
	t.Helper()
	if p, err := plan.Choose(of, where); p != (plan.Plan{}) || err != want {
		t.Errorf("%s: Choose = %+v, %d, not %d", what, p, err, want)
	}
}

// deep is an expression that stands within as many parts as make it n deep; the innermost one is e.
func deep(n int, op int, e api.Expr) api.Expr {
	for range n - 1 {
		switch op {
		case 3, 16:
			e = api.Expr{Op: op, Args: []api.Expr{e}}
		default:
			e = api.Expr{Op: op, Args: []api.Expr{lit(truth(1)), e}}
		}
	}
	return e
}

func TestP132ErrorsAndTheirOrder(t *testing.T) {
	good := op(equal, col(0), lit(num(1)))
	tooDeep := deep(13, 14, lit(truth(1)))
	none := catalog.Table{}
	for _, where := range [][]api.Expr{nil, {good}, {good, good}, {tooDeep}} {
		refuses(t, "no table", none, where, api.ErrState)
	}
	refuses(t, "two", table(), []api.Expr{good, good}, api.ErrCount)
	refuses(t, "two, one of them too deep", table(), []api.Expr{tooDeep, good}, api.ErrCount)
	refuses(t, "many", table(), make([]api.Expr, 100), api.ErrCount)
	refuses(t, "too deep", table(), []api.Expr{tooDeep}, api.ErrDeep)
}

func TestP132TablesThatMayNotBe(t *testing.T) {
	good := op(equal, col(0), lit(num(1)))
	for what, change := range map[string]func(t *catalog.Table){
		"no name":                func(t *catalog.Table) { t.Name = "" },
		"a keyword as name":      func(t *catalog.Table) { t.Name = "select" },
		"no columns":             func(t *catalog.Table) { t.Columns, t.Indexes = nil, nil },
		"a column's kind":        func(t *catalog.Table) { t.Columns[1].Kind = 4 },
		"a column's name":        func(t *catalog.Table) { t.Columns[1].Name = "B" },
		"two columns alike":      func(t *catalog.Table) { t.Columns[1].Name = "a" },
		"a key that may be NULL": func(t *catalog.Table) { t.Key = 1 },
		"a key below 0":          func(t *catalog.Table) { t.Key = -1 },
		"a key beyond":           func(t *catalog.Table) { t.Key = 4 },
		"an index beyond":        func(t *catalog.Table) { t.Indexes[0].Column = 4 },
		"an index below 0":       func(t *catalog.Table) { t.Indexes[0].Column = -1 },
		"an index's name":        func(t *catalog.Table) { t.Indexes[0].Name = "" },
		"two indexes alike":      func(t *catalog.Table) { t.Indexes[1].Name = t.Indexes[0].Name },
		"five indexes":           func(t *catalog.Table) { *t = table(0, 1, 2, 3, 1) },
		"nine columns": func(t *catalog.Table) {
			for _, n := range "efghi" {
				t.Columns = append(t.Columns, api.Column{Name: string(n), Kind: 1})
			}
		},
	} {
		of := table(1, 2)
		change(&of)
		for _, where := range [][]api.Expr{nil, {good}, {good, good}} {
			refuses(t, what, of, where, api.ErrState)
		}
	}
}

func TestP132NoCondition(t *testing.T) {
	for _, where := range [][]api.Expr{nil, {}} {
		if p, err := plan.Choose(table(1), where); p != everything || err != api.OK {
			t.Errorf("Choose = %+v, %d", p, err)
		}
	}
}

func TestP132HowDeep(t *testing.T) {
	for _, n := range []int{3, 14, 15, 16, 2, 4, 18, 0, 1, 8, 99, -1} {
		for _, innermost := range []api.Expr{lit(truth(1)), col(0), {Op: 77}} {
			if p, err := plan.Choose(table(), []api.Expr{deep(12, n, innermost)}); p != everything || err != api.OK {
				t.Errorf("12 deep, of op %d: %+v, %d", n, p, err)
			}
			for _, m := range []int{13, 14, 100} {
				refuses(t, fmt.Sprint(m, " deep, of op ", n), table(), []api.Expr{deep(m, n, innermost)}, api.ErrDeep)
			}
		}
	}
	// What is too deep may stand anywhere, also behind what is reckoned.
	bad := deep(12, 3, col(0))
	for _, e := range []api.Expr{op(14, bad, col(0)), op(14, col(0), bad), op(4, col(0), bad), op(8, op(2, col(0)), bad), op(19, col(0), col(1), col(2), bad)} {
		refuses(t, "too deep", table(), []api.Expr{e}, api.ErrDeep)
	}
	// The comparison is found 12 deep, too.
	e := op(equal, col(0), lit(num(1)))
	for range 10 {
		e = op(14, lit(truth(1)), e)
	}
	chooses(t, "12 deep", table(), e, span(0, in(num(1)), in(num(1))))
}

// An expression that is a part of itself has no end.
func TestP132PartsOfThemselves(t *testing.T) {
	for _, n := range []int{0, 3, 4, 8, 14, 77} {
		l := []api.Expr{{Op: n}, {Op: n}}
		l[0].Args, l[1].Args = l, l
		refuses(t, "a part of itself", table(), l[:1], api.ErrDeep)
		refuses(t, "a part of itself", table(), []api.Expr{op(14, col(0), l[1])}, api.ErrDeep)
	}
}

func TestP132WhatIsReckonedMakesAllRows(t *testing.T) {
	for _, n := range []int{2, 4, 5, 6, 7} {
		reckoned := op(n, lit(num(1)), lit(num(1)))
		if n == 2 {
			reckoned = op(2, lit(num(1)))
		}
		for ahead := range 11 {
			// Within op 3 as many times, beside a comparison that asks much.
			inner := deep(ahead+1, 3, reckoned)
			one := op(equal, col(0), lit(num(1)))
			chooses(t, fmt.Sprint(n, " alone, ", ahead), table(), inner, everything)
			if ahead < 9 {
				chooses(t, fmt.Sprint(n, " behind, ", ahead), table(), all(one, inner), everything)
				chooses(t, fmt.Sprint(n, " ahead, ", ahead), table(), op(14, inner, one), everything)
				chooses(t, fmt.Sprint(n, " in an or, ", ahead), table(1), all(one, op(15, one, inner)), everything)
			}
		}
		chooses(t, "on the other side", table(), op(equal, col(0), reckoned), everything)
		chooses(t, "beside NULL", table(), all(op(equal, col(0), lit(null)), op(above, col(1), reckoned)), everything)
		chooses(t, "no Args", table(), all(op(equal, col(0), lit(num(1))), api.Expr{Op: n}), everything)
		chooses(t, "in an aggregate", table(), all(op(equal, col(0), lit(num(1))), op(20, reckoned)), everything)
		chooses(t, "in a literal", table(), all(op(equal, col(0), lit(num(1))), op(0, reckoned)), everything)
		chooses(t, "in more than two Args", table(), all(op(equal, col(0), lit(num(1))), op(3, col(1), col(1), reckoned)), everything)
	}
	// Others are not reckoned so.
	for _, n := range []int{-1, 0, 1, 3, 8, 9, 10, 11, 12, 13, 14, 15, 16, 17, 18, 19, 20, 21, 22, 23, 1 << 40} {
		other := op(n, col(1), col(1))
		chooses(t, fmt.Sprint("op ", n), table(), all(op(equal, col(0), lit(num(1))), other), span(0, in(num(1)), in(num(1))))
	}
}

// Each comparison, with the column ahead and with the literal ahead.
func TestP132Comparisons(t *testing.T) {
	for _, x := range []struct {
		kind int // the column's place, too
		v    api.Value
	}{{1, num(7)}, {1, num(-1)}, {1, num(1<<63 - 1)}, {2, truth(0)}, {2, truth(1)}, {3, text("")}, {3, text("a")}, {3, text(strings.Repeat("x", 64))}} {
		v, c := lit(x.v), col(x.kind)
		of := table(x.kind)
		for n, want := range map[int]plan.Plan{
			equal:   span(1, in(x.v), in(x.v)),
			unlike:  everything,
			below:   span(1, open, out(x.v)),
			atMost:  span(1, open, in(x.v)),
			above:   span(1, out(x.v), open),
			atLeast: span(1, in(x.v), open),
		} {
			chooses(t, fmt.Sprint("column ahead, ", n), of, op(n, c, v), want)
			turn := map[int]int{equal: equal, unlike: unlike, below: above, atMost: atLeast, above: below, atLeast: atMost}
			chooses(t, fmt.Sprint("literal ahead, ", n), of, op(turn[n], v, c), want)
		}
	}
}

func TestP132NullAsLiteral(t *testing.T) {
	for _, n := range []int{equal, below, atMost, above, atLeast} {
		for place := range 4 {
			of := table(1, 2, 3)
			chooses(t, "column ahead", of, op(n, col(place), lit(null)), empty(place))
			chooses(t, "literal ahead", of, op(n, lit(null), col(place)), empty(place))
			chooses(t, "behind another", of, all(op(atLeast, col(0), lit(num(1))), op(n, col(place), lit(null))), empty(place))
			chooses(t, "ahead of another", of, all(op(n, lit(null), col(place)), op(equal, col(0), lit(num(1)))), empty(place))
		}
	}
	for _, n := range []int{-1, 0, 1, 3, unlike, 15, 16, 17, 18, 19, 20, 21, 22, 23, 1 << 40} {
		chooses(t, fmt.Sprint("no comparison: op ", n), table(1), op(n, col(0), lit(null)), everything)
		chooses(t, fmt.Sprint("no comparison: op ", n), table(1), op(n, lit(null), col(0)), everything)
	}
	chooses(t, "<> NULL", table(1), op(unlike, col(0), lit(null)), everything)
	chooses(t, "a column without an index", table(), op(equal, col(1), lit(null)), everything)
}

func TestP132LiteralsOfOtherKinds(t *testing.T) {
	for place, kind := range []int{1, 1, 2, 3} {
		for _, v := range []api.Value{num(1), truth(1), text("a"), {Kind: 4}, {Kind: -1}} {
			want := everything
			if v.Kind == kind {
				want = span(place, in(v), in(v))
			}
			of := table(1, 2, 3)
			chooses(t, "column ahead", of, op(equal, col(place), lit(v)), want)
			chooses(t, "literal ahead", of, op(equal, lit(v), col(place)), want)
			if v.Kind != kind {
				beside := op(atMost, col(0), lit(num(3)))
				chooses(t, "beside another", of, all(op(above, col(place), lit(v)), beside), span(0, open, in(num(3))))
			}
		}
	}
}

func TestP132ConditionsThatAskNothing(t *testing.T) {
	one := op(equal, col(0), lit(num(1)))
	for what, e := range map[string]api.Expr{
		"or":                        op(15, one, one),
		"not":                       op(3, one),
		"IS NULL":                   op(16, col(0)),
		"IS NOT NULL":               op(17, col(0)),
		"<>":                        op(unlike, col(0), lit(num(1))),
		"a column":                  col(2),
		"a literal":                 lit(truth(1)),
		"false":                     lit(truth(0)),
		"NULL":                      lit(null),
		"two columns":               op(equal, col(0), col(1)),
		"two columns, one":          op(equal, col(0), col(0)),
		"two literals":              op(equal, lit(num(1)), lit(num(1))),
		"two literals, NULL":        op(equal, lit(num(1)), lit(null)),
		"a column that is none":     op(equal, col(4), lit(num(1))),
		"a column below 0":          op(equal, col(-1), lit(num(1))),
		"a column without an index": op(equal, col(1), lit(num(1))),
		"an aggregate":              op(equal, op(19, col(0)), lit(num(1))),
		"a comparison compared":     op(equal, one, lit(truth(1))),
		"one Arg":                   op(equal, col(0)),
		"three Args":                op(equal, col(0), lit(num(1)), lit(num(1))),
		"no Args":                   op(equal),
		"and of one":                op(14, one),
		"and of three":              op(14, one, one, one),
		"and of none":               op(14),
		"and in an or":              op(15, all(one, one), one),
		"not of an and":             op(3, all(one, one)),
		"an op that is none":        op(23, col(0), lit(num(1))),
		"an op below 0":             op(-1, col(0), lit(num(1))),
		"and of two that ask none":  op(14, op(3, one), op(16, col(0))),
	} {
		chooses(t, what, table(2), e, everything)
		chooses(t, what+", beside another", table(2), all(e, op(above, col(0), lit(num(0)))), span(0, out(num(0)), open))
		chooses(t, what+", behind another", table(2), op(14, op(above, col(0), lit(num(0))), e), span(0, out(num(0)), open))
	}
}

// Conditions about one column are met wherever they stand, under and alone.
func TestP132ConditionsUnderSeveralAnds(t *testing.T) {
	other := op(15, col(2), col(2))
	lows := op(14, op(above, col(1), lit(num(1))), op(14, other, op(atLeast, lit(num(9)), col(1))))
	highs := op(14, op(14, op(14, other, op(above, lit(num(7)), col(1))), other), op(atLeast, col(1), lit(num(0))))
	want := span(1, out(num(1)), out(num(7)))
	of := table(1)
	chooses(t, "lows, highs", of, op(14, lows, highs), want)
	chooses(t, "highs, lows", of, op(14, highs, op(14, other, lows)), want)
	chooses(t, "one value of two bounds", of, op(14, lows, op(atMost, col(1), lit(num(2)))), span(1, out(num(1)), in(num(2))))
	two := op(14, op(atLeast, col(1), lit(num(2))), op(14, other, op(atLeast, lit(num(2)), col(1))))
	chooses(t, "two bounds are one value", of, two, span(1, in(num(2)), in(num(2))))
	chooses(t, "none is left", of, op(14, op(above, col(1), lit(num(2))), op(14, other, op(atLeast, lit(num(2)), col(1)))), empty(1))
	chooses(t, "two values", of, op(14, op(equal, col(1), lit(num(2))), op(equal, col(1), lit(num(3)))), empty(1))
	chooses(t, "one value, twice", of, op(14, op(equal, col(1), lit(num(2))), op(equal, col(1), lit(num(2)))), span(1, in(num(2)), in(num(2))))
}

// What wins: Empty ahead of one value ahead of a bound, the first of each.
func TestP132WhatWins(t *testing.T) {
	asks := map[string]func(place int) api.Expr{
		"empty": func(place int) api.Expr { return op(below, col(place), lit(null)) },
		"one":   func(place int) api.Expr { return op(equal, col(place), lit(num(5))) },
		"low":   func(place int) api.Expr { return op(above, col(place), lit(num(5))) },
		"high":  func(place int) api.Expr { return op(atMost, col(place), lit(num(5))) },
		"both": func(place int) api.Expr {
			return all(op(atMost, col(place), lit(num(5))), op(atLeast, col(place), lit(num(4))))
		},
		"none": func(place int) api.Expr { return op(16, col(place)) },
	}
	wants := map[string]plan.Plan{
		"empty": empty(0),
		"one":   span(0, in(num(5)), in(num(5))),
		"low":   span(0, out(num(5)), open),
		"high":  span(0, open, in(num(5))),
		"both":  span(0, in(num(4)), in(num(5))),
	}
	rank := map[string]int{"empty": 3, "one": 2, "low": 1, "high": 1, "both": 1}
	of := catalog.Table{Name: "t", Key: 2, Indexes: []catalog.Index{{Name: "z", Column: 0}, {Name: "y", Column: 1}, {Name: "x", Column: 1}}}
	for _, name := range []string{"p", "q", "r"} {
		of.Columns = append(of.Columns, api.Column{Name: name, Kind: 1, NotNull: true})
	}
	for first, a := range asks {
		for second, b := range asks {
			for third, c := range asks {
				want := everything
				best := 0
				for index, ask := range []string{third, first, second} { // the key is the column at place 2
					if rank[ask] > best {
						best, want = rank[ask], wants[ask]
						want.Index = index
					}
				}
				what := fmt.Sprint(first, ", ", second, ", key ", third)
				chooses(t, what, of, all(a(0), b(1), c(2)), want)
				chooses(t, what+", turned", of, all(c(2), b(1), a(0)), want)
			}
		}
	}
}

// A column that is both the key's and an index's, or two indexes'.
func TestP132OneColumnTwice(t *testing.T) {
	e := op(above, col(0), lit(num(1)))
	chooses(t, "the key goes ahead", table(0), e, span(0, out(num(1)), open))
	chooses(t, "the first index goes ahead", table(2, 1, 1), op(above, col(1), lit(num(1))), span(2, out(num(1)), open))
	chooses(t, "the index alone has one value", table(1, 0), all(e, op(equal, col(1), lit(num(1)))), span(1, in(num(1)), in(num(1))))
	of := table(0, 1)
	of.Key, of.Columns[1].NotNull = 1, true
	chooses(t, "another key", of, all(e, op(below, col(1), lit(num(3)))), span(0, open, out(num(3))))
	chooses(t, "another key, an index", of, e, span(1, out(num(1)), open))
	four := table(3, 2, 3, 1)
	chooses(t, "the fourth index", four, op(equal, col(1), lit(num(1))), span(4, in(num(1)), in(num(1))))
	chooses(t, "the key of one column", catalog.Table{Name: "t", Columns: []api.Column{{Name: "a", Kind: 3, NotNull: true}}}, op(equal, col(0), lit(text("x"))), span(0, in(text("x")), in(text("x"))))
}

// Values that may not be ask by their Kind; Keys is who refuses them.
func TestP132LiteralsThatMayNotBe(t *testing.T) {
	bad := api.Value{Kind: 2, N: 5}
	chooses(t, "a truth of 5", table(2), op(equal, col(2), lit(bad)), span(1, in(bad), in(bad)))
	chooses(t, "NULL with a text", table(2), op(equal, col(2), lit(api.Value{Text: "x"})), empty(1))
	p, _ := plan.Choose(table(2), []api.Expr{op(equal, col(2), lit(bad))})
	if _, _, err := plan.Keys(p); err != api.ErrState {
		t.Error("Keys:", err)
	}
}

// What is not told is not asked for: conditions beyond any order tell the same.
func TestP132TheOrderOfConditionsDoesNotMatter(t *testing.T) {
	l := []api.Expr{
		op(above, col(1), lit(num(1))), op(atMost, col(1), lit(num(8))), op(below, col(0), lit(num(8))), op(atLeast, lit(text("b")), col(3)),
	}
	for range 24 {
		chooses(t, "in any order", table(3, 1), all(l[0], l[1:]...), span(0, open, out(num(8))))
		l = append(l[1:], l[0])
		if len(l)%2 == 0 {
			slices.Reverse(l[:3])
		}
	}
}
