package exec_test

import (
	"fmt"
	"slices"
	"testing"

	"switchback/api"
	"switchback/catalog"
	"switchback/check"
	"switchback/exec"
	"switchback/parse"
	"switchback/plan"
	"switchback/query"
)

func lit(v api.Value) api.Expr { return api.Expr{Value: v} }

func col(place int) api.Expr { return api.Expr{Op: 1, Value: num(place)} }

func op(n int, args ...api.Expr) api.Expr { return api.Expr{Op: n, Args: args} }

// where is a condition of a table like t, as check makes it: all of one part.
func where(t *testing.T, s string) []api.Expr {
	t.Helper()
	e, _, err := parse.Expr(s)
	if err != api.OK {
		t.Fatal("parse:", s, err)
	}
	e, kind, err := check.Expr([]catalog.Table{table()}, e, false)
	if err != api.OK || kind != 2 && kind != 0 {
		t.Fatal("check:", s, kind, err)
	}
	return []api.Expr{e}
}

func tells(t *testing.T, what string, s exec.Store, where []api.Expr, want []row) {
	t.Helper()
	if l, err := exec.Where(s, where); err != api.OK || !sameRows(l, want) {
		t.Errorf("%s: Where = %s, %d, not %s", what, brief(l), err, brief(want))
	}
}

func refusesWhere(t *testing.T, what string, s exec.Store, where []api.Expr, want api.Errno) {
	t.Helper()
	if l, err := exec.Where(s, where); len(l) > 0 || err != want {
		t.Errorf("%s: Where = %s, %d, not %d", what, brief(l), err, want)
	}
}

// conditions of that table, and the keys of the rows of someRows that they tell; index is that of the plan, where there are indexes of a, d and c.
func conditions() []struct {
	index int
	where string
	keys  []int
} {
	return []struct {
		index int
		where string
		keys  []int
	}{
		{-1, "true", []int{-300, -1, 0, 2, 255, 256, 257}},
		{-1, "false", nil},
		{-1, "null", nil},
		{-1, "c", []int{-300, 2, 257}},
		{-1, "a is null", []int{-1, 256}},
		{-1, "d is not null", []int{-1, 0, 2, 255, 257}},
		{-1, "not c", []int{-1, 255}},
		{-1, "a <> 'x'", []int{0, 255, 257}},
		{-1, "b = 2 or d = 7", []int{-1, 0, 2}},
		{-1, "b = 1 + 1", []int{2}},
		{-1, "b + b > 0 and b < 257", []int{2, 255, 256}},
		{-1, "b = d", nil},
		{-1, "-b = 1", []int{-1}},
		{0, "b = 2", []int{2}},
		{0, "b = 3", nil},
		{0, "2 = b and c", []int{2}},
		{0, "b > 0", []int{2, 255, 256, 257}},
		{0, "0 <= b and b < 257", []int{0, 2, 255, 256}},
		{0, "b > 0 and a is not null", []int{2, 255, 257}},
		{0, "b = null", nil},
		{0, "b > 2 and b < 2", nil},
		{0, "b > 0 and a >= 'x'", []int{2, 255}},
		{1, "a = 'x'", []int{-300, 2}},
		{1, "a = 'x' and b > 0", []int{2}},
		{1, "a >= ''", []int{-300, 0, 2, 255, 257}},
		{1, "a > 'a' and (c or d is null)", []int{-300, 2}},
		{1, "a < 'x'", []int{0, 257}},
		{1, "'a' <= a", []int{-300, 2, 255, 257}},
		{1, "a = 'y'", nil},
		{1, "null < a", nil},
		{2, "d = 7", []int{-1, 0}},
		{2, "d >= 0", []int{-1, 0, 255, 257}},
		{2, "7 > d", []int{2, 257}},
		{2, "d = 7 and a >= ''", []int{0}},
		{3, "c = true", []int{-300, 2, 257}},
		{3, "c <= false", []int{-1, 255}},
		{2, "c < true and d > 0 and c >= false", []int{-1, 255}},
	}
}

func TestP142WhereByHand(t *testing.T) {
	l := someRows()
	of := table(0, 3, 2)
	chosen := map[int]int{}
	for _, x := range conditions() {
		if p, err := plan.Choose(of, where(t, x.where)); p.Index != x.index || err != api.OK {
			t.Fatalf("%s: by index %d, not %d", x.where, p.Index, x.index)
		}
		chosen[x.index]++
		for _, columns := range append(fewer(), []int{0, 3, 2}) {
			tells(t, fmt.Sprint(x.where, columns), laid(t, table(columns...), l), where(t, x.where), picked(t, l, x.keys...))
			tells(t, fmt.Sprint(x.where, columns, " of no rows"), laid(t, table(columns...), nil), where(t, x.where), nil)
		}
	}
	if len(chosen) != 5 {
		t.Error("chosen:", chosen)
	}
}

func TestP142WhereWithoutCondition(t *testing.T) {
	for _, columns := range fewer() {
		for _, n := range []int{0, 1, 30, 256} {
			s := laid(t, table(columns...), numbered(n))
			tells(t, "none", s, nil, numbered(n))
			tells(t, "an empty list", s, []api.Expr{}, numbered(n))
		}
	}
}

func TestP142WhereChoosesErrors(t *testing.T) {
	good := where(t, "b = 2")[0]
	for _, columns := range fewer() {
		for _, l := range [][]row{nil, someRows()} {
			s := laid(t, table(columns...), l)
			refusesWhere(t, "two", s, []api.Expr{good, good}, api.ErrCount)
			refusesWhere(t, "two, too deep", s, []api.Expr{deep(13), good}, api.ErrCount)
			refusesWhere(t, "many", s, make([]api.Expr, 100), api.ErrCount)
			refusesWhere(t, "too deep", s, []api.Expr{deep(13)}, api.ErrDeep)
			refusesWhere(t, "too deep, beside", s, []api.Expr{op(14, good, deep(12))}, api.ErrDeep)
			// Though Filter would not ask what is too deep.
			refusesWhere(t, "too deep, behind false", s, []api.Expr{op(14, lit(truth(0)), deep(12))}, api.ErrDeep)
			refusesWhere(t, "too deep, behind what is reckoned", s, []api.Expr{op(14, op(8, op(7, lit(num(1)), lit(num(0))), lit(num(1))), deep(12))}, api.ErrDeep)
			// 11 times not.
			tells(t, "12 deep", s, []api.Expr{deep(12)}, nil)
			tells(t, "11 deep", s, []api.Expr{deep(11)}, l)
		}
	}
}

func TestP142WhereFiltersErrors(t *testing.T) {
	for _, columns := range fewer() {
		s, none := laid(t, table(columns...), someRows()), laid(t, table(columns...), nil)
		for what, x := range map[string]struct {
			e    api.Expr
			want api.Errno
		}{
			"divided by zero":           {where(t, "1 / b > 0")[0], api.ErrZero},
			"beyond 64 bits":            {where(t, "d * 9223372036854775807 > 0")[0], api.ErrOver},
			"the first by key":          {where(t, "9223372036854775807 - b > 1 / b")[0], api.ErrOver},
			"behind what no row is":     {where(t, "a = 'y' and 1 / 0 = 1")[0], api.ErrZero},
			"behind a key of no row":    {where(t, "a = 'y' and b > 1000 or 1 / b = 1")[0], api.ErrZero},
			"no truth":                  {col(1), api.ErrType},
			"a literal that is none":    {lit(text("x")), api.ErrType},
			"unlike kinds":              {op(8, col(0), lit(num(1))), api.ErrType},
			"no such column":            {op(16, col(4)), api.ErrColumn},
			"a column below 0":          {op(16, col(-1)), api.ErrColumn},
			"an aggregate":              {op(18), api.ErrArg},
			"an op that is none":        {op(23, col(0)), api.ErrArg},
			"too few Args":              {op(8, col(0)), api.ErrCount},
			"an and of three":           {op(14, lit(truth(1)), lit(truth(1)), lit(truth(1))), api.ErrCount},
			"a truth that may not be":   {op(3, lit(api.Value{Kind: 2, N: 2})), api.ErrType},
			"within the key's span":     {op(14, op(8, col(1), lit(num(2))), col(9)), api.ErrColumn},
			"within the key's, reckons": {op(14, op(8, col(1), lit(num(0))), op(8, op(7, lit(num(1)), col(1)), lit(num(1)))), api.ErrZero},
		} {
			refusesWhere(t, what, s, []api.Expr{x.e}, x.want)
			tells(t, what+", of no rows", none, []api.Expr{x.e}, nil)
		}
	}
}

// Rows beyond the plan are not asked, and those within it by key.
func TestP142WhereAsksTheRowsOfThePlanByKey(t *testing.T) {
	l := someRows()
	fault := op(16, col(9))
	beyond := op(14, op(8, col(3), lit(num(5))), fault) // d = 5 is true of no row, but of rows of NULL it is not known
	refusesWhere(t, "no index of d", laid(t, table(0), l), []api.Expr{beyond}, api.ErrColumn)
	tells(t, "an index of d", laid(t, table(0, 3), l), []api.Expr{beyond}, nil)
	within := op(14, op(8, col(3), lit(num(7))), fault)
	refusesWhere(t, "within the plan", laid(t, table(0, 3), l), []api.Expr{within}, api.ErrColumn)
	nothing := op(14, op(8, col(3), lit(null)), fault)
	refusesWhere(t, "Empty, no index of d", laid(t, table(0), l), []api.Expr{nothing}, api.ErrColumn)
	tells(t, "Empty", laid(t, table(0, 3), l), []api.Expr{nothing}, nil)

	// An error of rows of which c is true, another where it is false.
	two := op(15, op(14, col(2), fault), op(14, op(3, col(2)), op(23)))
	low := op(14, op(13, col(3), lit(num(0))), two) // d >= 0: by d the row of key 257 (c is true) comes ahead of -1 (c is false)
	if p, err := exec.Scan(laid(t, table(3), l), span(1, in(num(0)), open)); err != api.OK || p[0][1] != num(257) {
		t.Fatal("Scan:", p, err)
	}
	refusesWhere(t, "by key", laid(t, table(3), l), []api.Expr{low}, api.ErrArg)
	low.Args[0] = op(10, col(3), lit(num(7))) // d < 7: 2 and 257
	refusesWhere(t, "by key", laid(t, table(3), l), []api.Expr{low}, api.ErrColumn)
}

// What Keys refuses is told by whichever plan asks it; where none does, Filter tells what it finds.
func TestP142WhereOfLiteralsThatMayNotBe(t *testing.T) {
	e := []api.Expr{op(8, col(3), lit(api.Value{Kind: 1, N: 7, Text: "x"}))}
	for _, l := range [][]row{nil, someRows()} {
		refusesWhere(t, "by the index", laid(t, table(3), l), e, api.ErrState)
	}
	refusesWhere(t, "no index", laid(t, table(0), someRows()), e, api.ErrType)
	tells(t, "no index, no rows", laid(t, table(0), nil), e, nil)
}

// A column that both the key and an index have, and two indexes of one column.
func TestP142WhereComesByKey(t *testing.T) {
	for _, n := range []int{30, 256} {
		l := numbered(n)
		for _, columns := range fewer() {
			s := laid(t, table(columns...), l)
			for _, c := range []string{"d >= 0", "d < 80 and d > 20", "a = 't3'", "a > 't1' and a <= 't4'", "c = false", "c > false", "c >= false and a is null", "b >= 30 and d > 3"} {
				got, err := exec.Where(s, where(t, c))
				rises := slices.IsSortedFunc(got, func(a, b row) int { return a[1].N - b[1].N })
				if want, wanted := query.Filter(l, where(t, c)); err != wanted || !rises || len(got) == 0 || !sameRows(got, want) {
					t.Errorf("%v: %s: %s, %d", columns, c, brief(got), err)
				}
			}
		}
	}
}
