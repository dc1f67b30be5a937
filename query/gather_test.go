package query_test

import (
	"fmt"
	"slices"
	"strings"
	"testing"

	"switchback/api"
	"switchback/eval"
	"switchback/query"
)

// The chapter's example.
func TestP102Example(t *testing.T) {
	gathers(t, "count(*) of no rows", nil, -1, exprs(all()), numbers(0))
	gathers(t, "count(*) of no rows", []row{}, -1, exprs(all()), numbers(0))
}

// Rows of a number, a truth and a text, in no order.
func some() []row {
	return []row{
		{num(2), yes, text("b")},
		{num(-1), no, text("ab")},
		{null, yes, text("")},
		{num(2), null, text("b")},
		{num(10), no, null},
		{null, no, text("b")},
		{num(2), yes, text("a")},
	}
}

// Groups come in value.Order, whatever their rows' order; in each the rows stay in theirs.
func TestP102GroupsAtEachPlace(t *testing.T) {
	l := some()
	gathers(t, "by numbers", l, 0, exprs(at(0), all(), at(2)),
		row{null, num(2), text("")}, row{num(-1), num(1), text("ab")}, row{num(2), num(3), text("b")}, row{num(10), num(1), null})
	gathers(t, "by truths", l, 1, exprs(at(1), all(), at(0)),
		row{null, num(1), num(2)}, row{no, num(3), num(-1)}, row{yes, num(3), num(2)})
	gathers(t, "by texts", l, 2, exprs(at(2), all(), at(1)),
		row{null, num(1), no}, row{text(""), num(1), yes}, row{text("a"), num(1), yes}, row{text("ab"), num(1), no}, row{text("b"), num(3), yes})
	slices.Reverse(l)
	gathers(t, "by numbers, turned round", l, 0, exprs(at(0), all(), at(2)),
		row{null, num(2), text("b")}, row{num(-1), num(1), text("ab")}, row{num(2), num(3), text("a")}, row{num(10), num(1), null})
	gathers(t, "by one group of all", l, -1, exprs(at(0), all(), at(2)), row{num(2), num(7), text("a")})
	gathers(t, "by kinds", []row{{text("")}, {no}, {num(greatest)}, {null}, {num(least)}, {yes}}, 0, exprs(at(0)),
		row{null}, row{num(least)}, row{num(greatest)}, row{no}, row{yes}, row{text("")})
}

func TestP102GroupsOfAll(t *testing.T) {
	for _, group := range []int{-1, -2, least} {
		gathers(t, "some rows", some(), group, exprs(all()), numbers(7))
		gathers(t, "rows of nothing", []row{nil, {}}, group, exprs(all()), numbers(2))
		gathers(t, "rows of unlike widths", []row{{num(1)}, {}, {num(2), num(3)}}, group, exprs(all(), at(0)), numbers(3, 1))
		gathers(t, "no rows", nil, group, exprs(all(), lit(text("a"))), row{num(0), text("a")})
		gathers(t, "no items", some(), group, nil, nil)
		gathers(t, "no rows and no items", nil, group, nil, nil)
		gathers(t, "no rows and no items", []row{}, group, []api.Expr{}, nil)
	}
}

// By a place no rows are no group.
func TestP102GroupsOfNoRows(t *testing.T) {
	for _, group := range []int{0, 1, 7, 1 << 32, greatest - 1, greatest} {
		for _, items := range [][]api.Expr{nil, {all()}, {at(0), op(sum, at(1))}, {faults()[api.ErrArg]}, {faults()[api.ErrDeep]}} {
			gathers(t, fmt.Sprint("no rows by place ", group), nil, group, items)
			gathers(t, fmt.Sprint("no rows by place ", group), []row{}, group, items)
		}
	}
	gathers(t, "no items", some(), 1, nil, nil, nil, nil)
}

// A row that has no such place is refused ahead of all items, wherever it stands.
func TestP102PlacesThatNoRowHas(t *testing.T) {
	for _, items := range [][]api.Expr{nil, {all()}, {at(0)}, {faults()[api.ErrZero]}, {faults()[api.ErrDeep]}} {
		for _, group := range []int{3, 4, 1 << 32, 1<<32 + 1, greatest - 1, greatest} {
			refusesGather(t, fmt.Sprint("by place ", group), some(), group, items, api.ErrColumn)
			refusesGather(t, fmt.Sprint("one row by place ", group), some()[:1], group, items, api.ErrColumn)
		}
		for i := range some() {
			l := some()
			l[i] = l[i][:2]
			refusesGather(t, "a row that is short", l, 2, items, api.ErrColumn)
			l[i] = nil
			refusesGather(t, "a row of nothing", l, 0, items, api.ErrColumn)
		}
	}
	l := some()
	l[3] = l[3][:2]
	gathers(t, "by a place that all rows have", l, 1, exprs(at(1), all()), row{null, num(1)}, row{no, num(3)}, row{yes, num(3)})
}

// Values that value.Order does not tell apart are one.
func TestP102GroupsOfValuesThatMayNotBe(t *testing.T) {
	five, like := num(5), api.Value{Kind: 1, N: 5, Text: "5"}
	gathers(t, "numbers", []row{{num(6), num(0)}, {like, num(1)}, {five, num(2)}, {like, num(3)}}, 0, exprs(at(0), at(1), all()),
		row{like, num(1), num(3)}, row{num(6), num(0), num(1)})
	gathers(t, "NULLs", []row{{num(6)}, {null}, {{N: 1}}, {{Text: "a"}}}, 0, exprs(at(0), all()), row{null, num(3)}, row{num(6), num(1)})
	gathers(t, "kinds", []row{{{Kind: 9, N: 1}}, {{Kind: -1}}, {{Kind: 9}}, {num(6)}}, 0, exprs(at(0), all()),
		row{{Kind: -1}, num(1)}, row{num(6), num(1)}, row{{Kind: 9, N: 1}, num(2)})
}

// Of all lists of few rows the groups are as they are told by hand: each value once, rising, with its rows in order.
func TestP102ShortLists(t *testing.T) {
	values := row{null, num(1), num(2), no, text("a")}
	for n := range 3125 * 5 {
		var l []row
		for m := n; m > 0; m /= 6 {
			if m%6 > 0 {
				l = append(l, row{num(len(l)), values[m%6-1]})
			}
		}
		var want []row
		for _, v := range values {
			var firsts row
			for _, r := range l {
				if r[1] == v {
					firsts = append(firsts, r[0])
				}
			}
			if len(firsts) > 0 {
				want = append(want, row{v, firsts[0], num(len(firsts)), slices.MaxFunc(firsts, func(a, b api.Value) int { return a.N - b.N })})
			}
		}
		gathers(t, fmt.Sprint(l), l, 1, exprs(at(1), at(0), all(), op(maxOf, at(0))), want...)
	}
}

func TestP102Aggregates(t *testing.T) {
	l := some()
	items := exprs(all(), op(count, at(0)), op(sum, at(0)), op(minOf, at(0)), op(maxOf, at(0)))
	gathers(t, "of all", l, -1, items, numbers(7, 5, 15, -1, 10))
	gathers(t, "by truths", l, 1, items, numbers(1, 1, 2, 2, 2), numbers(3, 2, 9, -1, 10), numbers(3, 2, 4, 2, 2))
	gathers(t, "of no rows", nil, -1, items, row{num(0), num(0), null, null, null})
	gathers(t, "of NULLs", []row{{null}, {null}}, -1, items, row{num(2), num(0), null, null, null})
	gathers(t, "of one NULL", []row{{null}}, 0, items, row{num(1), num(0), null, null, null})
	gathers(t, "of texts", l, 1, exprs(op(minOf, at(2)), op(maxOf, at(2)), op(count, at(2))),
		row{text("b"), text("b"), num(1)}, row{text("ab"), text("b"), num(2)}, row{text(""), text("b"), num(3)})
	gathers(t, "of truths", l, -1, exprs(op(minOf, at(1)), op(maxOf, at(1)), op(count, at(1))), row{no, yes, num(6)})
	gathers(t, "of what is reckoned", l, -1, exprs(op(sum, op(mul, at(0), at(0))), op(count, op(div, at(0), lit(null))), op(maxOf, op(isNull, at(0)))), row{num(113), num(0), yes})
	gathers(t, "of literals", l, 1, exprs(op(sum, lit(num(3))), op(minOf, lit(text("x"))), op(count, lit(null))),
		row{num(3), text("x"), num(0)}, row{num(9), text("x"), num(0)}, row{num(9), text("x"), num(0)})
	gathers(t, "and, or as they are over a row", l, -1, exprs(op(count, op(and, lit(no), faults()[api.ErrZero])), op(maxOf, op(or, lit(yes), faults()[api.ErrOver]))), row{num(7), yes})
	gathers(t, "12 deep itself", l[:1], -1, exprs(op(sum, deep(11, at(0)))), numbers(2))
}

// count(*) asks none of its Args, however many there are; the others have one.
func TestP102ArgsOfAggregates(t *testing.T) {
	for _, rows := range [][]row{nil, some(), some()[:1]} {
		for _, args := range [][]api.Expr{nil, {}, {at(0)}, {at(99)}, {faults()[api.ErrZero], faults()[api.ErrDeep]}, {all(), op(99), op(neg)}, make([]api.Expr, 1000)} {
			gathers(t, fmt.Sprint("count(*) with ", len(args)), rows, -1, exprs(op(countAll, args...)), numbers(len(rows)))
			gathers(t, fmt.Sprint("-count(*) with ", len(args)), rows, -1, exprs(op(neg, op(countAll, args...))), numbers(-len(rows)))
			for o := count; o <= maxOf; o++ {
				if len(args) != 1 {
					refusesGather(t, fmt.Sprint("op ", o, " with ", len(args)), rows, -1, exprs(op(o, args...)), api.ErrCount)
					refusesGather(t, fmt.Sprint("op ", o, " with ", len(args), " within"), rows, -1, exprs(op(isNull, op(o, args...))), api.ErrCount)
				}
			}
		}
	}
	for o := count; o <= maxOf; o++ { // of no rows the Arg is not asked
		for err, e := range faults() {
			refusesGather(t, fmt.Sprint("op ", o, " of a fault"), some(), -1, exprs(op(o, e)), err)
			refusesGather(t, fmt.Sprint("op ", o, " of a fault, by truths"), some(), 1, exprs(op(o, e)), err)
			want := null
			if o == count {
				want = num(0)
			}
			gathers(t, fmt.Sprint("op ", o, " of a fault, no rows"), nil, -1, exprs(op(o, e)), row{want})
		}
		for inner := countAll; inner <= maxOf; inner++ {
			refusesGather(t, "within one another", some(), -1, exprs(op(o, op(inner, at(0)))), api.ErrArg)
			refusesGather(t, "within what is within one another", some(), -1, exprs(op(o, op(neg, op(inner, at(0))))), api.ErrArg)
		}
	}
}

// The Arg's error over the first row that has one goes ahead of what Fold refuses.
func TestP102ErrorsOfAggregates(t *testing.T) {
	byZero := op(div, lit(num(1)), at(0))
	refusesGather(t, "by 0", []row{numbers(1), numbers(0)}, -1, exprs(op(count, byZero)), api.ErrZero)
	refusesGather(t, "by 0, then a type", []row{{num(1)}, {num(0)}, {yes}}, -1, exprs(op(count, byZero)), api.ErrZero)
	refusesGather(t, "a type, then by 0", []row{{num(1)}, {yes}, {num(0)}}, -1, exprs(op(count, byZero)), api.ErrType)
	refusesGather(t, "a row that is short", []row{{num(1), num(2)}, {num(1)}}, -1, exprs(op(minOf, at(1))), api.ErrColumn)
	refusesGather(t, "a sum that is too great", []row{numbers(greatest), numbers(1), numbers(-1)}, -1, exprs(op(sum, at(0))), api.ErrOver)
	gathers(t, "a sum that is not", []row{numbers(greatest), numbers(-1), numbers(1)}, -1, exprs(op(sum, at(0))), numbers(greatest))
	refusesGather(t, "a sum of truths", []row{{yes}}, -1, exprs(op(sum, at(0))), api.ErrType)
	refusesGather(t, "a sum that is too great, then by 0", []row{numbers(1), numbers(1), numbers(0)}, -1, exprs(op(sum, op(sub, lit(num(greatest)), op(div, lit(num(1)), at(0))))), api.ErrZero)
	refusesGather(t, "a sum of texts", []row{{num(1), text("a")}}, 0, exprs(op(sum, at(1))), api.ErrType)
}

func TestP102Columns(t *testing.T) {
	l := some()
	gathers(t, "of the first row", l, -1, exprs(at(0), at(1), at(2)), l[0])
	gathers(t, "of the first row of each group", l, 1, exprs(at(2), at(0), at(1)),
		row{text("b"), num(2), null}, row{text("ab"), num(-1), no}, row{text("b"), num(2), yes})
	gathers(t, "within others", l, 1, exprs(op(add, at(0), all()), op(isNull, at(1))), row{num(3), yes}, row{num(2), no}, row{num(5), no})
	for _, place := range append(numbersOfNoPlace(3), 0, 1, 2) {
		gathers(t, "of no rows", nil, -1, exprs(at(place), op(isNull, at(place)), op(neg, at(place))), row{null, yes, null})
	}
	for _, place := range numbersOfNoPlace(3) {
		refusesGather(t, fmt.Sprint("place ", place), l, -1, exprs(at(place)), api.ErrColumn)
		refusesGather(t, fmt.Sprint("place ", place, " within"), l, 0, exprs(op(isNull, op(add, lit(num(1)), at(place)))), api.ErrColumn)
	}
	short := []row{{num(1), num(2)}, {num(1)}, {num(0)}, {num(0), num(3)}}
	gathers(t, "that the first row alone has", short[:2], 0, exprs(at(1)), numbers(2))
	refusesGather(t, "that the first row has not", short[2:], 0, exprs(at(1)), api.ErrColumn)
	for _, v := range wrong() {
		gathers(t, "a value that may not be", []row{{v}, {null}}, -1, exprs(at(0)), row{v})
	}
	for _, e := range []api.Expr{{Op: column, Value: api.Value{N: 2}}, {Op: column, Value: api.Value{Kind: 3, N: 2, Text: "x"}, Table: "t", Name: "a"}} {
		gathers(t, "its N alone is its place", l, -1, exprs(e), row{text("b")})
	}
}

// Columns have no number of Args that is asked of them here, as the chapter names no such error.
func TestP102ColumnsWithArgs(t *testing.T) {
	e := api.Expr{Op: column, Value: num(2), Args: exprs(faults()[api.ErrZero], op(99))}
	gathers(t, "of some rows", some(), -1, exprs(e), row{text("b")})
	gathers(t, "of no rows", nil, -1, exprs(e), row{null})
}

// Ops that are no aggregates are what eval makes of their Args' values.
func TestP102Others(t *testing.T) {
	total, n := op(sum, at(0)), all() // 15, 7
	for what, x := range map[string]struct {
		e    api.Expr
		want api.Value
	}{
		"a literal":           {lit(text("x")), text("x")},
		"NULL":                {lit(null), null},
		"a literal with less": {api.Expr{Value: num(-3), Table: "t"}, num(-3)},
		"neg":                 {op(neg, total), num(-15)},
		"neg of NULL":         {op(neg, lit(null)), null},
		"not":                 {op(not, op(maxOf, at(1))), no},
		"add":                 {op(add, total, n), num(22)},
		"sub":                 {op(sub, total, n), num(8)},
		"mul":                 {op(mul, total, n), num(105)},
		"div":                 {op(div, total, n), num(2)},
		"equal":               {op(equal, total, n), no},
		"unlike":              {op(unlike, total, n), yes},
		"below":               {op(below, total, n), no},
		"at most":             {op(atMost, total, n), no},
		"above":               {op(above, total, n), yes},
		"at least":            {op(atLeast, total, n), yes},
		"with NULL":           {op(below, total, lit(null)), null},
		"is null":             {op(isNull, total), no},
		"is not null":         {op(isNotNull, total), yes},
		"within each other":   {op(sub, op(mul, lit(num(2)), op(add, total, at(0))), op(neg, op(maxOf, at(0)))), num(44)},
	} {
		gathers(t, what, some(), -1, exprs(x.e), row{x.want})
	}
	for o := neg; o <= isNotNull; o++ {
		for _, a := range append(wrong(), null, no, yes, num(0), num(7), num(least), text(""), text("a")) {
			for _, b := range append(wrong(), null, no, yes, num(0), num(-1), text("a")) {
				args := exprs(at(0), at(1))[:argsOf(o)]
				v, wrong := eval.Eval(op(o, args...), row{a, b})
				l, err := query.Gather([]row{{a, b}}, -1, exprs(op(o, args...)))
				want := []row{{v}}
				if wrong != api.OK {
					want = nil
				}
				holds(t, fmt.Sprint("op ", o, " of ", a, " and ", b), l, err, want, wrong)
			}
		}
	}
}

// argsOf tells how many Args an op has over a row.
func argsOf(o int) int {
	return strings.IndexByte("012", "001122222222222211"[o])
}

// And, or reckon both Args: the first one does not hide the second one's error.
func TestP102AndOr(t *testing.T) {
	truths := row{no, null, yes}
	ands := [][]api.Value{{no, no, no}, {no, null, null}, {no, null, yes}}
	ors := [][]api.Value{{no, null, yes}, {null, null, yes}, {yes, yes, yes}}
	for i, a := range truths {
		for j, b := range truths {
			gathers(t, "and", []row{{a, b}}, -1, exprs(op(and, at(0), at(1))), row{ands[i][j]})
			gathers(t, "or", []row{{a, b}}, -1, exprs(op(or, at(0), at(1))), row{ors[i][j]})
			gathers(t, "and of aggregates", []row{{a, b}}, -1, exprs(op(and, op(minOf, at(0)), op(maxOf, at(1)))), row{ands[i][j]})
		}
	}
	for _, o := range []int{and, or} {
		for _, v := range truths {
			for err, e := range faults() {
				refusesGather(t, "the second Arg", some(), -1, exprs(op(o, lit(v), e)), err)
				refusesGather(t, "the second Arg, of no rows", nil, -1, exprs(op(o, lit(v), op(add, lit(yes), lit(null)))), api.ErrType)
				refusesGather(t, "the first Arg", some(), -1, exprs(op(o, e, lit(v))), err)
				refusesGather(t, "an aggregate's", some(), -1, exprs(op(o, lit(v), op(maxOf, e))), err)
			}
		}
		refusesGather(t, "no truth first", some(), -1, exprs(op(o, lit(num(1)), lit(yes))), api.ErrType)
		refusesGather(t, "no truth behind NULL", some(), -1, exprs(op(o, lit(null), lit(num(1)))), api.ErrType)
	}
	refusesGather(t, "true and no truth", some(), -1, exprs(op(and, lit(yes), lit(num(1)))), api.ErrType)
	refusesGather(t, "false or no truth", some(), -1, exprs(op(or, lit(no), lit(num(1)))), api.ErrType)
	gathers(t, "false and no truth, as eval has it", some(), -1, exprs(op(and, lit(no), all())), row{no})
	gathers(t, "true or no truth, as eval has it", some(), -1, exprs(op(or, lit(yes), all())), row{yes})
}

// Ops that are none, and numbers of Args, are refused ahead of the Args.
func TestP102OthersThatAreRefused(t *testing.T) {
	bad := exprs(faults()[api.ErrZero], op(99), at(99), deep(13, lit(null)))
	for _, rows := range [][]row{nil, some()} {
		for _, o := range []int{-1, -2, -18, least, least + 18, 23, 24, 99, 1 << 32, 1<<32 + 18, greatest} {
			for n := range len(bad) {
				refusesGather(t, fmt.Sprint("op ", o, " of ", n), rows, -1, exprs(op(o, bad[:n]...)), api.ErrArg)
				refusesGather(t, fmt.Sprint("op ", o, " of ", n, " within"), rows, -1, exprs(op(isNull, op(o, bad[:n]...))), api.ErrArg)
			}
		}
		for o := 0; o <= isNotNull; o++ {
			for n := range len(bad) {
				if o != column && n != argsOf(o) {
					refusesGather(t, fmt.Sprint("op ", o, " of ", n), rows, -1, exprs(op(o, bad[:n]...)), api.ErrCount)
					refusesGather(t, fmt.Sprint("op ", o, " of ", n, " within"), rows, -1, exprs(op(neg, op(o, bad[:n]...))), api.ErrCount)
				}
			}
			if o != column {
				refusesGather(t, "very many Args", rows, -1, exprs(op(o, make([]api.Expr, 100000)...)), api.ErrCount)
			}
		}
		for _, o := range []int{add, div, below, and, or} {
			for first, a := range faults() {
				if rows == nil && first == api.ErrColumn {
					continue
				}
				for _, b := range bad {
					refusesGather(t, "the first Arg's error", rows, -1, exprs(op(o, a, b)), first)
				}
			}
		}
	}
	refusesGather(t, "its own error behind its Args'", some(), -1, exprs(op(add, lit(yes), faults()[api.ErrZero])), api.ErrZero)
	refusesGather(t, "its own error", some(), -1, exprs(op(add, lit(yes), all())), api.ErrType)
	refusesGather(t, "its own error", some(), -1, exprs(op(div, all(), lit(num(0)))), api.ErrZero)
	refusesGather(t, "its own error", some(), -1, exprs(op(sub, lit(num(least)), all())), api.ErrOver)
	refusesGather(t, "its own error, of no rows", nil, -1, exprs(op(div, lit(num(1)), all())), api.ErrZero)
}

func TestP102Deep(t *testing.T) {
	for what, e := range map[string]api.Expr{"a literal": lit(num(5)), "a column": at(0), "count(*)": all()} {
		for _, rows := range [][]row{nil, some()} {
			if _, err := query.Gather(rows, -1, exprs(deep(12, e))); err != api.OK {
				t.Errorf("%s, 12 deep: %d", what, err)
			}
			for _, n := range []int{13, 14, 24, 60000} {
				refusesGather(t, fmt.Sprint(what, ", ", n, " deep"), rows, -1, exprs(deep(n, e)), api.ErrDeep)
			}
		}
	}
	gathers(t, "12 deep", some(), -1, exprs(deep(12, lit(num(5))), deep(12, at(0)), deep(12, all())), numbers(-5, -2, -7))
	gathers(t, "an aggregate 11 deep", some(), -1, exprs(deep(11, op(sum, at(0)))), numbers(15))
	refusesGather(t, "an aggregate 13 deep", some(), -1, exprs(deep(13, op(sum, at(0)))), api.ErrDeep)
	refusesGather(t, "an aggregate's Arg of 13", some(), -1, exprs(op(sum, deep(13, at(0)))), api.ErrDeep)
	gathers(t, "an aggregate's Arg is eval's: 12 deep", some(), -1, exprs(op(sum, deep(12, at(0)))), numbers(-15))
	left, right := all(), all()
	for range 11 {
		left, right = op(add, left, lit(num(1))), op(add, lit(num(1)), right)
	}
	gathers(t, "to both sides", some(), -1, exprs(left, right), numbers(18, 18))
	refusesGather(t, "13 to the left", some(), -1, exprs(op(add, left, lit(num(1)))), api.ErrDeep)
	refusesGather(t, "13 to the right", some(), -1, exprs(op(add, lit(num(1)), right)), api.ErrDeep)
	full := all()
	for range 11 {
		full = op(add, full, full)
	}
	gathers(t, "12 deep everywhere", some(), -1, exprs(full), numbers(7*2048))
	itself := exprs(lit(num(1)), lit(num(2)))
	itself[0], itself[1] = op(add, itself...), op(add, itself...)
	refusesGather(t, "a part of itself", some(), -1, itself, api.ErrDeep)
	refusesGather(t, "an aggregate of a part of itself", some(), -1, exprs(op(sum, itself[0])), api.ErrDeep)
}

// Part by part: ErrDeep, then what is said of its op, its Args behind.
func TestP102WhichErrorGoesAhead(t *testing.T) {
	deepest := deep(12, lit(num(1)))
	for what, x := range map[string]struct {
		e    api.Expr
		want api.Errno
	}{
		"deep, and no op":                 {deep(13, op(99)), api.ErrDeep},
		"deep, and too few Args":          {deep(13, op(neg)), api.ErrDeep},
		"deep, and no place":              {deep(13, at(-1)), api.ErrDeep},
		"deep, and a sum of none":         {deep(13, op(sum)), api.ErrDeep},
		"just not deep, and no op":        {deep(12, op(99)), api.ErrArg},
		"just not deep, and too few Args": {deep(12, op(neg)), api.ErrCount},
		"just not deep, and no place":     {deep(12, at(-1)), api.ErrColumn},
		"just not deep, and a sum":        {deep(12, op(sum)), api.ErrCount},
		"no op, of what is deep":          {op(99, deepest), api.ErrArg},
		"too few Args, of what is deep":   {op(add, deepest), api.ErrCount},
		"two Args of a sum, deep":         {op(sum, deepest, deep(13, at(0))), api.ErrCount},
		"by 0, then what is deep":         {op(add, faults()[api.ErrZero], deepest), api.ErrZero},
		"what is deep, then by 0":         {op(add, deepest, faults()[api.ErrZero]), api.ErrDeep},
		"a type, then no op":              {op(add, op(not, all()), op(99)), api.ErrType},
		"no op, then a type":              {op(add, op(99), op(not, all())), api.ErrArg},
		"a sum of none, then no place":    {op(add, op(sum), at(99)), api.ErrCount},
		"no place, then a sum of none":    {op(add, at(99), op(sum)), api.ErrColumn},
	} {
		refusesGather(t, what, some(), -1, exprs(x.e), x.want)
		refusesGather(t, what+", behind a literal", some(), 1, exprs(lit(null), x.e), x.want)
	}
}

// Group by group, and in each item by item, the first error is told.
func TestP102TheFirstErrorOfItems(t *testing.T) {
	for first, e := range faults() {
		for second, f := range faults() {
			refusesGather(t, "two faults", some(), -1, exprs(e, f), first)
			refusesGather(t, "two faults, in groups", some(), 0, exprs(f, all(), e), second)
		}
	}
	l := []row{{num(3), yes}, {num(2), num(1)}, {num(1), num(0)}, {num(2), num(0)}}
	byZero, kind := op(div, lit(num(1)), at(1)), op(not, at(1))
	refusesGather(t, "the least group: a type ahead of by 0", l, 0, exprs(kind, byZero), api.ErrType)
	refusesGather(t, "the least group: by 0 ahead of a type", l, 0, exprs(byZero, kind), api.ErrZero)
	refusesGather(t, "the first row of all: a type", l, -1, exprs(kind, byZero), api.ErrType)
	refusesGather(t, "a truth in the third group, by 0 in the first", l, 0, exprs(op(isNull, byZero)), api.ErrZero)
	refusesGather(t, "a truth in the third group, by 0 in the second", slices.Concat(l[:2], l[3:]), 0, exprs(op(sum, byZero)), api.ErrZero)
	refusesGather(t, "a truth in the third group alone", l[:2], 0, exprs(op(sum, byZero)), api.ErrType)
	gathers(t, "by 0 in no group's first row", l[1:2], 0, exprs(byZero), numbers(1))
}
