package query_test

import (
	"fmt"
	"math"
	"slices"
	"strings"
	"testing"

	"switchback/api"
	"switchback/query"
)

const (
	least    = math.MinInt64
	greatest = math.MaxInt64
)

const (
	column = iota + 1
	neg
	not
	add
	sub
	mul
	div
	equal
	unlike
	below
	atMost
	above
	atLeast
	and
	or
	isNull
	isNotNull
	countAll
	count
	sum
	minOf
	maxOf
)

var (
	null = api.Value{}
	no   = api.Value{Kind: 2}
	yes  = api.Value{Kind: 2, N: 1}
)

type row = []api.Value

func num(n int) api.Value { return api.Value{Kind: 1, N: n} }

func text(s string) api.Value { return api.Value{Kind: 3, Text: s} }

func is(b bool) api.Value {
	if b {
		return yes
	}
	return no
}

func lit(v api.Value) api.Expr { return api.Expr{Value: v} }

// at is the column at a place.
func at(place int) api.Expr { return api.Expr{Op: column, Value: num(place)} }

func op(n int, args ...api.Expr) api.Expr { return api.Expr{Op: n, Args: args} }

// all is count(*).
func all() api.Expr { return op(countAll) }

// deep has n parts within each other, the last of them e.
func deep(n int, e api.Expr) api.Expr {
	for range n - 1 {
		e = op(neg, e)
	}
	return e
}

// numbers is a row.
func numbers(l ...int) row {
	var r row
	for _, n := range l {
		r = append(r, num(n))
	}
	return r
}

// upTo are rows of one number each, from 0 on.
func upTo(n int) []row {
	var l []row
	for i := range n {
		l = append(l, numbers(i))
	}
	return l
}

// wrong are values that may not be.
func wrong() []api.Value {
	return []api.Value{
		{Kind: -1}, {Kind: 4, Text: "a"}, {Kind: least, N: 1}, {N: 1}, {Text: "a"},
		{Kind: 1, N: 5, Text: "5"}, {Kind: 2, N: 2}, {Kind: 2, N: 1, Text: "true"}, {Kind: 2, Text: "x"},
		{Kind: 3, N: 1}, text(strings.Repeat("a", 65)),
	}
}

// faults are expressions that tell an error over whatever row, each another one.
func faults() map[api.Errno]api.Expr {
	return map[api.Errno]api.Expr{
		api.ErrZero:   op(div, lit(num(1)), lit(num(0))),
		api.ErrOver:   op(add, lit(num(greatest)), lit(num(1))),
		api.ErrType:   op(not, lit(num(1))),
		api.ErrColumn: at(-1),
		api.ErrArg:    op(99),
		api.ErrCount:  op(neg),
		api.ErrDeep:   deep(13, lit(num(1))),
	}
}

// numbersOfNoPlace are places that a row of n values has not.
func numbersOfNoPlace(n int) []int {
	return []int{-1, -2, least, least + 1, n, n + 1, 1 << 32, 1<<32 + 1, greatest - 1, greatest}
}

func same(a, b []row) bool {
	return slices.EqualFunc(a, b, slices.Equal[row])
}

// brief shows a list of rows, as far as it is short.
func brief(l []row) string {
	if len(l) > 12 {
		return fmt.Sprint(len(l), " rows, from ", l[0], " to ", l[len(l)-1])
	}
	return fmt.Sprint(l)
}

// holds tells whether a call told what it ought to.
func holds(t *testing.T, what string, l []row, err api.Errno, want []row, wrong api.Errno) {
	t.Helper()
	if !same(l, want) || err != wrong {
		t.Errorf("%s = %s, %d, not %s, %d", what, brief(l), err, brief(want), wrong)
	}
}

func joins(t *testing.T, what string, a, b []row, on []api.Expr, want ...row) {
	t.Helper()
	l, err := query.Join(a, b, on)
	holds(t, what+": Join", l, err, want, api.OK)
}

func refusesJoin(t *testing.T, what string, a, b []row, on []api.Expr, want api.Errno) {
	t.Helper()
	l, err := query.Join(a, b, on)
	holds(t, what+": Join", l, err, nil, want)
}

func filters(t *testing.T, what string, l []row, where []api.Expr, want ...row) {
	t.Helper()
	next, err := query.Filter(l, where)
	holds(t, what+": Filter", next, err, want, api.OK)
}

func refusesFilter(t *testing.T, what string, l []row, where []api.Expr, want api.Errno) {
	t.Helper()
	next, err := query.Filter(l, where)
	holds(t, what+": Filter", next, err, nil, want)
}

func projects(t *testing.T, what string, l []row, items []api.Expr, want ...row) {
	t.Helper()
	next, err := query.Project(l, items)
	holds(t, what+": Project", next, err, want, api.OK)
}

func refusesProject(t *testing.T, what string, l []row, items []api.Expr, want api.Errno) {
	t.Helper()
	next, err := query.Project(l, items)
	holds(t, what+": Project", next, err, nil, want)
}

func gathers(t *testing.T, what string, l []row, group int, items []api.Expr, want ...row) {
	t.Helper()
	next, err := query.Gather(l, group, items)
	holds(t, what+": Gather", next, err, want, api.OK)
}

func refusesGather(t *testing.T, what string, l []row, group int, items []api.Expr, want api.Errno) {
	t.Helper()
	next, err := query.Gather(l, group, items)
	holds(t, what+": Gather", next, err, nil, want)
}

func sorts(t *testing.T, what string, l []row, order []api.Order, limit int, want ...row) {
	t.Helper()
	next, err := query.Sort(l, order, limit)
	holds(t, what+": Sort", next, err, want, api.OK)
}

func refusesSort(t *testing.T, what string, l []row, order []api.Order, limit int, want api.Errno) {
	t.Helper()
	next, err := query.Sort(l, order, limit)
	holds(t, what+": Sort", next, err, nil, want)
}

// exprs is a list of them.
func exprs(l ...api.Expr) []api.Expr { return l }

// rolled answers numbers below a bound, the same each time.
func rolled(seed uint64) func(n int) int {
	return func(n int) int {
		seed = seed*6364136223846793005 + 1442695040888963407
		return int(seed >> 33 % uint64(n))
	}
}
