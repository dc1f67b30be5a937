package query_test

import (
	"fmt"
	"slices"
	"testing"

	"switchback/api"
	"switchback/query"
)

// Each row of a, in order, with each of b, in order.
func TestP101JoinOfAllPairs(t *testing.T) {
	a := []row{{num(3), text("x")}, {num(1), null}, {num(2), text("")}}
	b := []row{{yes}, {no}}
	joins(t, "three and two", a, b, nil,
		row{num(3), text("x"), yes}, row{num(3), text("x"), no},
		row{num(1), null, yes}, row{num(1), null, no},
		row{num(2), text(""), yes}, row{num(2), text(""), no})
	joins(t, "two and one", b, a[1:2], nil, row{yes, num(1), null}, row{no, num(1), null})
	joins(t, "like rows", []row{a[0], a[0]}, []row{{yes}, {yes}}, nil,
		row{num(3), text("x"), yes}, row{num(3), text("x"), yes}, row{num(3), text("x"), yes}, row{num(3), text("x"), yes})
	joins(t, "rows of unlike widths", []row{{num(1)}, {}, {num(2), num(3)}}, []row{{}, {yes, no}}, nil,
		row{num(1)}, row{num(1), yes, no}, row{}, row{yes, no}, row{num(2), num(3)}, row{num(2), num(3), yes, no})
	for _, v := range wrong() {
		joins(t, "values that may not be", []row{{v}}, []row{{num(1), v}}, nil, row{v, num(1), v})
	}
}

func TestP101JoinOfNoRows(t *testing.T) {
	one := upTo(1)
	for _, on := range [][]api.Expr{nil, {}, {lit(yes)}, {lit(no)}, {lit(null)}, {lit(num(1))}, {faults()[api.ErrZero]}} {
		for _, none := range [][]row{nil, {}} {
			joins(t, "none at all", none, none, on)
			joins(t, "none of a", none, one, on)
			joins(t, "none of b", one, none, on)
			joins(t, "many of a, none of b", upTo(5000), none, on)
		}
	}
	joins(t, "rows of nothing", []row{nil, {}}, []row{nil}, nil, nil, nil)
}

func TestP101JoinOn(t *testing.T) {
	a := []row{{num(1), text("a")}, {num(2), text("b")}, {null, text("c")}, {num(1), text("d")}}
	b := []row{{num(2), yes}, {num(1), no}, {null, yes}}
	joins(t, "true", a[:1], b, exprs(lit(yes)), row{num(1), text("a"), num(2), yes}, row{num(1), text("a"), num(1), no}, row{num(1), text("a"), null, yes})
	joins(t, "false", a, b, exprs(lit(no)))
	joins(t, "NULL", a, b, exprs(lit(null)))
	joins(t, "a column of each", a, b, exprs(op(equal, at(0), at(2))),
		row{num(1), text("a"), num(1), no}, row{num(2), text("b"), num(2), yes}, row{num(1), text("d"), num(1), no})
	joins(t, "a truth of b", a[1:3], b, exprs(at(3)),
		row{num(2), text("b"), num(2), yes}, row{num(2), text("b"), null, yes}, row{null, text("c"), num(2), yes}, row{null, text("c"), null, yes})
	joins(t, "a comparison and NULL", a, b, exprs(op(and, op(isNull, at(2)), op(above, at(0), lit(num(1))))), row{num(2), text("b"), null, yes})
	joins(t, "a truth that may not be", []row{{{Kind: 2, N: 1, Text: "x"}}, {yes}, {{N: 1}}, {{Kind: 2, N: 2}}}, []row{{}}, exprs(at(0)), row{yes})
}

// More than one condition is refused whatever it would be, and whatever the rows are.
func TestP101ConditionsOfMany(t *testing.T) {
	for _, l := range [][]api.Expr{
		exprs(lit(yes), lit(yes)), exprs(lit(no), lit(no)), exprs(lit(yes), lit(no), lit(null)), make([]api.Expr, 1000),
		exprs(faults()[api.ErrZero], lit(yes)), exprs(lit(yes), faults()[api.ErrDeep]), exprs(faults()[api.ErrArg], faults()[api.ErrType]),
	} {
		for _, n := range []int{0, 1, 2, 5000} {
			what := fmt.Sprint(len(l), " conditions of ", n, " rows")
			refusesJoin(t, what, upTo(n), upTo(1), l, api.ErrCount)
			refusesJoin(t, what, upTo(1), upTo(n), l, api.ErrCount)
			refusesJoin(t, what, upTo(n), nil, l, api.ErrCount)
			refusesFilter(t, what, upTo(n), l, api.ErrCount)
		}
	}
}

// faultyConditions are those that True refuses: what eval tells, and what is no truth.
func faultyConditions() map[string]api.Expr {
	l := map[string]api.Expr{
		"a number":         lit(num(1)),
		"a text":           lit(text("true")),
		"a kind of none":   lit(api.Value{Kind: 9}),
		"an aggregate":     all(),
		"a literal's Args": op(0, lit(yes)),
	}
	for err, e := range faults() {
		l[fmt.Sprint("a fault: ", err)] = e
	}
	return l
}

func faultOf(e api.Expr) api.Errno {
	for err, fault := range faults() {
		if fault.Op == e.Op && len(fault.Args) == len(e.Args) && fault.Value == e.Value && (err != api.ErrDeep || e.Args[0].Op == neg) {
			return err
		}
	}
	switch {
	case e.Op == countAll:
		return api.ErrArg
	case len(e.Args) > 0:
		return api.ErrCount
	}
	return api.ErrType
}

func TestP101ConditionsThatAreRefused(t *testing.T) {
	for what, e := range faultyConditions() {
		want := faultOf(e)
		for _, n := range []int{1, 2, 70, 5000} {
			refusesFilter(t, what, upTo(n), exprs(e), want)
			refusesJoin(t, what, upTo(n), upTo(n), exprs(e), want)
		}
		filters(t, what+", no rows", nil, exprs(e))
		filters(t, what+", not asked", upTo(2), exprs(op(and, lit(no), e)))
	}
	for _, place := range numbersOfNoPlace(2) {
		refusesJoin(t, fmt.Sprint("place ", place), upTo(1), upTo(1), exprs(at(place)), api.ErrColumn)
		refusesFilter(t, fmt.Sprint("place ", place), []row{{yes, no}}, exprs(at(place)), api.ErrColumn)
	}
	short := []row{{num(1), yes}, {num(2)}}
	refusesFilter(t, "a row that is short", short, exprs(at(1)), api.ErrColumn)
	refusesJoin(t, "a pair that is short", short, []row{{}}, exprs(at(1)), api.ErrColumn)
	joins(t, "a short row with a long one", short[1:], []row{{yes}}, exprs(at(1)), row{num(2), yes})
}

// The first pair, or row, whose condition is refused tells which error it is.
func TestP101TheFirstErrorOfConditions(t *testing.T) {
	a := numbers(1, 0, 2)
	l := []row{{a[0], yes}, {a[1], text("x")}, {a[2], yes}, {text("y"), yes}}
	over := op(atLeast, op(div, lit(num(9)), at(0)), lit(num(0)))
	filters(t, "none yet", l[:1], exprs(over), l[0])
	refusesFilter(t, "by 0, then a text", l, exprs(over), api.ErrZero)
	slices.Reverse(l)
	refusesFilter(t, "a text, then by 0", l, exprs(over), api.ErrType)
	refusesFilter(t, "a text by itself", l[:2], exprs(over), api.ErrType)
	refusesFilter(t, "by 0 by itself", l[1:], exprs(over), api.ErrZero)
	first, second := []row{numbers(4), numbers(2)}, []row{{num(1)}, {num(2)}, {yes}}
	differ := exprs(op(above, op(div, lit(num(1)), op(sub, at(0), at(1))), lit(num(-5))))
	refusesJoin(t, "the third pair is a type, the fifth by 0", first, second, differ, api.ErrType)
	slices.Reverse(first)
	refusesJoin(t, "the second pair is by 0, the third a type", first, second, differ, api.ErrZero)
	joins(t, "no such pair", first[1:], second[:2], differ, numbers(4, 1), numbers(4, 2))
}

// MaxOut pairs come out, and no more.
func TestP101JoinsThatAreFull(t *testing.T) {
	for _, on := range [][]api.Expr{nil, {lit(yes)}, {op(isNotNull, at(1))}} {
		for _, n := range [][2]int{{64, 64}, {4096, 1}, {1, 4096}, {16, 256}, {1365, 3}} {
			l, err := query.Join(upTo(n[0]), upTo(n[1]), on)
			if len(l) != n[0]*n[1] || err != api.OK || !slices.Equal(l[len(l)-1], numbers(n[0]-1, n[1]-1)) || !slices.Equal(l[n[1]-1], numbers(0, n[1]-1)) {
				t.Errorf("Join of %d by %d = %s, %d", n[0], n[1], brief(l), err)
			}
		}
		for _, n := range [][2]int{{17, 241}, {4097, 1}, {1, 4097}, {64, 65}, {65, 64}, {256, 256}, {5000, 5000}, {100000, 2}} {
			refusesJoin(t, fmt.Sprint(n), upTo(n[0]), upTo(n[1]), on, api.ErrFull)
		}
	}
}

// Pairs that do not come out take no room.
func TestP101JoinsThatAreFullOfSomePairs(t *testing.T) {
	some := func(n int) []api.Expr { // of 100 by 100 the first n pairs
		return exprs(op(below, op(add, op(mul, at(0), lit(num(100))), at(1)), lit(num(n))))
	}
	rest := func(n int) []api.Expr { return exprs(op(not, some(10000 - n)[0])) }
	for _, n := range []int{0, 1, 4095, 4096} {
		for _, on := range [][]api.Expr{some(n), rest(n)} {
			if l, err := query.Join(upTo(100), upTo(100), on); len(l) != n || err != api.OK {
				t.Errorf("Join of which %d pairs are so = %s, %d", n, brief(l), err)
			}
		}
	}
	for _, n := range []int{4097, 4098, 10000} {
		refusesJoin(t, fmt.Sprint(n, " pairs"), upTo(100), upTo(100), some(n), api.ErrFull)
		refusesJoin(t, fmt.Sprint(n, " pairs behind others"), upTo(100), upTo(100), rest(n), api.ErrFull)
	}
	joins(t, "none of very many", upTo(1000), upTo(1000), exprs(lit(no)))
	joins(t, "one of very many", upTo(1000), upTo(1000), exprs(op(equal, op(add, at(0), at(1)), lit(num(1998)))), numbers(999, 999))
}

// Pair by pair: a condition's error ahead of the pair that is too many, or its own, goes ahead of ErrFull.
func TestP101ErrorsAheadOfFull(t *testing.T) {
	wrongAt := func(n int) []api.Expr { // by 0 of the pair n, else true
		return exprs(op(isNotNull, op(div, lit(num(1)), op(sub, at(0), lit(num(n))))))
	}
	for _, n := range []int{0, 1, 4095, 4096} {
		refusesJoin(t, fmt.Sprint("by 0 at ", n), upTo(5000), []row{nil}, wrongAt(n), api.ErrZero)
		refusesJoin(t, fmt.Sprint("by 0 at ", n, ", which is the last"), upTo(n+1), []row{nil}, wrongAt(n), api.ErrZero)
	}
	for _, n := range []int{4097, 4098, 4999, 5000} {
		refusesJoin(t, fmt.Sprint("by 0 at ", n), upTo(5000), []row{nil}, wrongAt(n), api.ErrFull)
	}
	second := func(n int) []api.Expr { // true of each second pair
		half := op(div, at(0), lit(num(2)))
		odd := op(unlike, op(add, half, half), at(0))
		return exprs(op(and, wrongAt(n)[0], odd))
	}
	for n, want := range map[int]api.Errno{8191: api.ErrZero, 8192: api.ErrZero, 8193: api.ErrZero, 8194: api.ErrFull, 8195: api.ErrFull} {
		refusesJoin(t, fmt.Sprint("by 0 at ", n, " of each second"), upTo(9000), []row{nil}, second(n), want)
	}
	if l, err := query.Join(upTo(8192), []row{nil}, second(9000)); len(l) != 4096 || err != api.OK {
		t.Errorf("Join of each second pair = %s, %d", brief(l), err)
	}
}

func TestP101Filter(t *testing.T) {
	l := []row{{num(3), yes, text("a")}, {num(1), no, text("b")}, {null, yes, null}, {num(3), null, text("c")}}
	for _, where := range [][]api.Expr{nil, {}, {lit(yes)}} {
		filters(t, "all", l, where, l...)
		filters(t, "none", nil, where)
		filters(t, "no rows", []row{}, where)
		filters(t, "rows of nothing", []row{nil, {}}, where, nil, nil)
	}
	filters(t, "false", l, exprs(lit(no)))
	filters(t, "NULL", l, exprs(lit(null)))
	filters(t, "a column", l, exprs(at(1)), l[0], l[2])
	filters(t, "not a column", l, exprs(op(not, at(1))), l[1])
	filters(t, "a column is NULL", l, exprs(op(isNull, at(1))), l[3])
	filters(t, "a number", l, exprs(op(equal, at(0), lit(num(3)))), l[0], l[3])
	filters(t, "another one", l, exprs(op(unlike, at(0), lit(num(3)))), l[1])
	filters(t, "a number or a text", l, exprs(op(or, op(below, at(0), lit(num(2))), op(equal, at(2), lit(text("c"))))), l[1], l[3])
	filters(t, "rows of unlike widths", []row{{yes}, {no, yes}, {yes, no, yes}}, exprs(at(0)), row{yes}, row{yes, no, yes})
	filters(t, "like rows", []row{l[0], l[1], l[0]}, exprs(at(1)), l[0], l[0])
	for _, v := range wrong() {
		filters(t, "values that may not be", []row{{v, yes}, {v, no}}, exprs(at(1)), row{v, yes})
	}
	many, err := query.Filter(upTo(20000), exprs(op(atLeast, at(0), lit(num(5000)))))
	if len(many) != 15000 || err != api.OK || !slices.Equal(many[0], numbers(5000)) || !slices.Equal(many[14999], numbers(19999)) {
		t.Errorf("Filter of many = %s, %d", brief(many), err)
	}
}

func TestP101Project(t *testing.T) {
	l := []row{{num(3), text("a")}, {null, text("b")}, {num(-1), null}}
	projects(t, "a column", l, exprs(at(0)), row{num(3)}, row{null}, row{num(-1)})
	projects(t, "columns", l, exprs(at(1), at(0), at(1)), row{text("a"), num(3), text("a")}, row{text("b"), null, text("b")}, row{null, num(-1), null})
	projects(t, "a literal", l, exprs(lit(yes)), row{yes}, row{yes}, row{yes})
	projects(t, "a sum, and is null", l, exprs(op(add, at(0), lit(num(2))), op(isNull, at(1))), row{num(5), no}, row{null, no}, row{num(1), yes})
	projects(t, "and is not asked on", l, exprs(op(and, lit(no), faults()[api.ErrZero])), row{no}, row{no}, row{no})
	projects(t, "12 deep", l, exprs(deep(12, at(0))), row{num(-3)}, row{null}, row{num(1)})
	projects(t, "no items", l, nil, nil, nil, nil)
	projects(t, "no items", l, []api.Expr{}, nil, nil, nil)
	projects(t, "no rows", nil, exprs(at(0), lit(yes)))
	projects(t, "no rows", []row{}, exprs(at(7), faults()[api.ErrDeep], all()))
	projects(t, "neither", nil, nil)
	projects(t, "rows of unlike widths", []row{{yes}, {no, yes}}, exprs(at(0)), row{yes}, row{no})
	many, err := query.Project(upTo(20000), exprs(op(neg, at(0)), at(0)))
	if len(many) != 20000 || err != api.OK || !slices.Equal(many[19999], numbers(-19999, 19999)) {
		t.Errorf("Project of many = %s, %d", brief(many), err)
	}
}

// Row by row, and in each item by item, the first error is told.
func TestP101TheFirstErrorOfItems(t *testing.T) {
	for first, e := range faults() {
		refusesProject(t, "a fault", upTo(2), exprs(e), first)
		for second, f := range faults() {
			refusesProject(t, "two faults", upTo(2), exprs(e, f), first)
			refusesProject(t, "two faults behind others", upTo(2), exprs(at(0), e, f), first)
			refusesProject(t, "two faults", upTo(2), exprs(f, lit(yes), e), second)
		}
	}
	refusesProject(t, "an aggregate", upTo(1), exprs(all()), api.ErrArg)
	refusesProject(t, "another one", upTo(1), exprs(op(sum, at(0))), api.ErrArg)
	for _, place := range numbersOfNoPlace(1) {
		refusesProject(t, fmt.Sprint("place ", place), upTo(3), exprs(at(place)), api.ErrColumn)
	}
	byZero, kind := op(div, lit(num(1)), at(0)), op(not, at(1))
	l := []row{{num(1), yes}, {num(0), yes}, {num(1), num(1)}}
	refusesProject(t, "by 0 in the second row, a type in the third", l, exprs(kind, byZero), api.ErrZero)
	refusesProject(t, "by 0 in the second row, a type in the third", l, exprs(byZero, kind), api.ErrZero)
	l[1], l[2] = l[2], l[1]
	refusesProject(t, "a type in the second row, by 0 in the third", l, exprs(byZero, kind), api.ErrType)
	projects(t, "the first row", l[:1], exprs(byZero, kind), row{num(1), no})
	refusesProject(t, "a row that is short", []row{{num(1), yes}, {num(1)}, {num(0)}}, exprs(byZero, kind), api.ErrColumn)
}
