package query_test

import (
	"fmt"
	"slices"
	"testing"

	"switchback/api"
	"switchback/catalog"
	"switchback/check"
	"switchback/parse"
	"switchback/query"
)

// selects answers a select as it is run: of items alone, with no part beside them.
func selects(items ...api.Expr) check.Typed {
	return check.Typed{Stmt: api.Stmt{Kind: 7, Items: items, Limit: -1}, Join: -1, Group: -1}
}

func tells(t *testing.T, what string, x check.Typed, a, b []row, want ...row) {
	t.Helper()
	l, err := query.Select(x, a, b)
	holds(t, what+": Select", l, err, want, api.OK)
}

func refuses(t *testing.T, what string, x check.Typed, a, b []row, want api.Errno) {
	t.Helper()
	l, err := query.Select(x, a, b)
	holds(t, what+": Select", l, err, nil, want)
}

func TestP103SelectOfItems(t *testing.T) {
	a := []row{{num(2), yes}, {num(1), no}, {num(2), null}}
	x := selects(at(1), op(neg, at(0)))
	tells(t, "items", x, a, nil, row{yes, num(-2)}, row{no, num(-1)}, row{null, num(-2)})
	tells(t, "items of no rows", x, nil, nil)
	x.Stmt.Order = orders(rising(2), falling(1))
	tells(t, "an order of what the items are", x, a, nil, row{yes, num(-2)}, row{null, num(-2)}, row{no, num(-1)})
	x.Stmt.Limit = 2
	tells(t, "a limit", x, a, nil, row{yes, num(-2)}, row{null, num(-2)})
	x.Stmt.Limit = 0
	tells(t, "a limit of 0", x, a, nil)
	x.Stmt.Limit = -1
	x.Stmt.Where = exprs(op(isNotNull, at(1)))
	tells(t, "a condition of the row", x, a, nil, row{yes, num(-2)}, row{no, num(-1)})
	x.Stmt.Items = nil
	x.Stmt.Order = nil
	tells(t, "no items", x, a, nil, nil, nil)
}

// What is of other statements is not asked, nor are the places of tables.
func TestP103SelectAsksItsPartsAlone(t *testing.T) {
	x := selects(at(0))
	x.Table, x.Kinds = 99, []int{3, 3, 3}
	x.Stmt.Table, x.Stmt.Join, x.Stmt.Key = "1", "2", "3"
	x.Stmt.Rows, x.Stmt.Sets = [][]api.Expr{{faults()[api.ErrZero]}}, []api.Set{{Expr: faults()[api.ErrZero]}}
	x.Stmt.Group = exprs(at(0))
	tells(t, "other fields", x, []row{numbers(2, 3), numbers(1, 4)}, nil, numbers(2), numbers(1))
}

func TestP103SelectOfOtherKinds(t *testing.T) {
	for _, kind := range []int{0, 1, 2, 3, 4, 5, 6, 8, 9, 10, 11, -1, -7, least, greatest, 1<<32 + 7} {
		for _, l := range [][]row{nil, upTo(3)} {
			x := selects(at(0))
			x.Stmt.Kind = kind
			refuses(t, fmt.Sprint("kind ", kind), x, l, l, api.ErrKind)
			x.Join, x.Stmt.On = 0, exprs(lit(yes), lit(yes))
			refuses(t, fmt.Sprint("kind ", kind, " of a join at fault"), x, l, l, api.ErrKind)
			refuses(t, fmt.Sprint("nothing but kind ", kind), check.Typed{Stmt: api.Stmt{Kind: kind}}, l, l, api.ErrKind)
		}
	}
}

// The second rows, and on, are asked only where there is a join.
func TestP103SelectOfJoins(t *testing.T) {
	a, b := []row{numbers(1, 10), numbers(2, 20)}, []row{numbers(2), numbers(1), numbers(3)}
	x := selects(at(1), at(2))
	x.Stmt.On = exprs(op(below, at(0), at(2)))
	for _, join := range []int{0, 1, 7, greatest} {
		x.Join = join
		tells(t, fmt.Sprint("join ", join), x, a, b, numbers(10, 2), numbers(10, 3), numbers(20, 3))
		tells(t, fmt.Sprint("join ", join, " of no rows"), x, a, nil)
		tells(t, fmt.Sprint("join ", join, " of no rows"), x, nil, b)
	}
	x.Stmt.Where = exprs(op(above, at(2), lit(num(2))))
	tells(t, "a join and a condition", x, a, b, numbers(10, 3), numbers(20, 3))
	x.Stmt.Where = nil
	x.Group, x.Stmt.Items = 2, exprs(at(2), all(), op(sum, at(1)))
	tells(t, "a join and groups of b's values", x, a, b, numbers(2, 1, 10), numbers(3, 2, 30))
	x.Group, x.Stmt.Items = -1, exprs(at(0))
	for _, join := range []int{-1, -2, least} {
		x.Join = join
		for _, on := range [][]api.Expr{nil, {lit(no)}, {faults()[api.ErrZero]}, {lit(yes), lit(yes)}} {
			x.Stmt.On = on
			tells(t, fmt.Sprint("join ", join), x, a, b, numbers(1), numbers(2))
		}
	}
	x.Join, x.Stmt.On, x.Stmt.Limit = 0, nil, 1
	tells(t, "as many as there may be", x, upTo(64), upTo(64), numbers(0))
	refuses(t, "more than there may be", x, upTo(64), upTo(65), api.ErrFull)
	x.Stmt.On = exprs(op(unlike, at(0), at(1)))
	tells(t, "as many as there may be, of more", x, upTo(64), upTo(65), numbers(0))
	x.Join = -1
	if l, err := query.Select(selects(at(0)), upTo(5000), nil); len(l) != 5000 || err != api.OK {
		t.Errorf("Select of 5000 = %s, %d", brief(l), err)
	}
}

func TestP103SelectOfGroups(t *testing.T) {
	a := []row{{num(2), text("b")}, {num(1), text("a")}, {num(5), text("b")}, {num(7), null}}
	x := selects(at(1), op(sum, at(0)))
	x.Group = 1
	tells(t, "groups", x, a, nil, row{null, num(7)}, row{text("a"), num(1)}, row{text("b"), num(7)})
	x.Stmt.Order = orders(falling(2), falling(1))
	tells(t, "groups in an order", x, a, nil, row{text("b"), num(7)}, row{null, num(7)}, row{text("a"), num(1)})
	x.Stmt.Where, x.Stmt.Limit = exprs(op(below, at(0), lit(num(6)))), 1
	tells(t, "groups of some rows, the first", x, a, nil, row{text("b"), num(7)})
	x = selects(at(1))
	x.Group = 1
	tells(t, "groups without aggregates", x, a, nil, row{null}, row{text("a")}, row{text("b")})
	tells(t, "groups of no rows", x, nil, nil)
	x.Group = 0
	tells(t, "other groups", x, a, nil, row{text("a")}, row{text("b")}, row{text("b")}, row{null})
	x.Group = 2
	refuses(t, "groups of no place", x, a, nil, api.ErrColumn)
	tells(t, "groups of no place and no rows", x, nil, nil)
}

// An aggregate, wherever it stands in whichever item, makes one group of all.
func TestP103SelectOfAggregates(t *testing.T) {
	a := []row{numbers(2), numbers(1), numbers(5)}
	for o, want := range map[int]int{countAll: 3, count: 3, sum: 8, minOf: 1, maxOf: 5} {
		for _, group := range []int{-1, -2, least} {
			e := op(o, at(0))
			x := selects(e)
			x.Group = group
			tells(t, fmt.Sprint("op ", o), x, a, nil, numbers(want))
			x.Stmt.Items = exprs(lit(null), op(add, lit(num(1)), op(neg, e)))
			tells(t, fmt.Sprint("op ", o, " within the second item"), x, a, nil, row{null, num(1 - want)})
			x.Stmt.Items = exprs(deep(12, op(countAll)), deep(11, e))
			tells(t, fmt.Sprint("op ", o, " deep within"), x, a, nil, numbers(-3, want))
			x.Stmt.Where = exprs(lit(no))
			x.Stmt.Items = exprs(lit(text("x")), op(isNull, op(o, at(0))))
			tells(t, fmt.Sprint("op ", o, " of no rows"), x, a, nil, row{text("x"), is(o != countAll && o != count)})
		}
	}
	x := selects(op(or, lit(yes), op(isNull, op(minOf, at(9)))))
	refuses(t, "both Args are reckoned where one has an aggregate", x, a, nil, api.ErrColumn)
	x = selects(op(or, lit(yes), op(isNull, at(9))))
	tells(t, "they are not, where there is none", x, a, nil, row{yes}, row{yes}, row{yes})
	for _, o := range []int{isNotNull, maxOf + 1, -countAll, 1<<32 + countAll} {
		x = selects(op(or, lit(yes), op(o, at(0))))
		tells(t, fmt.Sprint("op ", o, " is no aggregate"), x, a, nil, row{yes}, row{yes}, row{yes})
		tells(t, fmt.Sprint("op ", o, " is no aggregate, of no rows"), x, nil, nil)
	}
}

// Too deep, or beside other Args, an aggregate is one, too: then there is a group, even of no rows.
func TestP103SelectOfAggregatesThatMayNotBe(t *testing.T) {
	for _, n := range []int{13, 14, 40, 60000} {
		refuses(t, fmt.Sprint(n, " deep"), selects(deep(n, all())), nil, nil, api.ErrDeep)
		tells(t, fmt.Sprint(n, " deep without one"), selects(deep(n, at(0))), nil, nil)
		refuses(t, fmt.Sprint(n, " deep without one, of some rows"), selects(deep(n, at(0))), upTo(2), nil, api.ErrDeep)
	}
	refuses(t, "one Arg too many", selects(op(neg, at(0), op(not, all()))), nil, nil, api.ErrCount)
	tells(t, "one Arg too many, and none", selects(op(neg, at(0), op(not, at(0)))), nil, nil)
	refuses(t, "of an op that is none", selects(op(99, lit(null), all())), nil, nil, api.ErrArg)
	refuses(t, "within a literal", selects(op(0, all())), nil, nil, api.ErrCount)
	tells(t, "of a column, which has none", selects(op(column, all())), nil, nil, row{null})
	refuses(t, "within one another", selects(op(sum, all())), upTo(1), nil, api.ErrArg)
	tells(t, "within one another, of no rows", selects(op(sum, all())), nil, nil, row{null})
}

// Items that are parts of themselves come to an end.
func TestP103SelectOfItemsThatHaveNoEnd(t *testing.T) {
	for width := 1; width < 40; width += 19 {
		for _, o := range []int{0, neg, add, and, 99} {
			itself := make([]api.Expr, width)
			for i := range itself {
				itself[i] = op(o, itself...)
			}
			for i := range itself {
				itself[i].Args = itself
			}
			tells(t, "of no rows", selects(itself[0]), nil, nil)
			if _, err := query.Select(selects(itself...), upTo(2), nil); err == api.OK {
				t.Errorf("%d Args of op %d that are parts of themselves: no error", width, o)
			}
			if _, err := query.Select(selects(itself[0], all()), nil, nil); err == api.OK {
				t.Errorf("%d Args of op %d that are parts of themselves, and count(*): no error", width, o)
			}
			itself[width-1].Op = countAll
			if l, err := query.Select(selects(itself[:1]...), nil, nil); err == api.OK && len(l) != 1 {
				t.Errorf("%d Args of op %d, one of them count(*): no group", width, o)
			}
		}
	}
	twice := at(0)
	for range 60 {
		twice = op(add, twice, twice)
	}
	tells(t, "very many parts", selects(twice), nil, nil)
	refuses(t, "very many parts, and count(*)", selects(twice, all()), nil, nil, api.ErrDeep)
	args := exprs(at(0), all())
	refuses(t, "the first of some Args, then all", selects(op(neg, args[:1]...), op(neg, args...)), nil, nil, api.ErrCount)
}

// Call by call: Join, Filter, Gather or Project, Sort.
func TestP103SelectsFirstError(t *testing.T) {
	two := exprs(lit(yes), lit(yes))
	steps := []func(x *check.Typed){
		func(x *check.Typed) { x.Stmt.On = exprs(faults()[api.ErrZero]) },
		func(x *check.Typed) { x.Stmt.Where = exprs(faults()[api.ErrOver]) },
		func(x *check.Typed) { x.Stmt.Items = exprs(at(0), faults()[api.ErrType]) },
		func(x *check.Typed) { x.Stmt.Order = orders(rising(1), rising(3)) },
	}
	want := []api.Errno{api.ErrZero, api.ErrOver, api.ErrType, api.ErrRange}
	for some := 1; some < 1<<len(steps); some++ {
		for group := -1; group <= 1; group++ {
			x := selects(at(0), at(1))
			x.Join, x.Group = 0, group
			first := api.OK
			for i, step := range steps {
				if some>>i&1 == 1 {
					step(&x)
					if first == api.OK {
						first = want[i]
					}
				}
			}
			what := fmt.Sprint("some steps: ", some, ", group ", group)
			refuses(t, what, x, upTo(2), upTo(2), first)
			if some&2 == 0 {
				x.Stmt.Where = two
				if some&1 == 0 {
					first = api.ErrCount
				}
				refuses(t, what+", two conditions", x, upTo(2), upTo(2), first)
			}
			x.Stmt.On = two
			refuses(t, what+", two conditions of a join", x, upTo(2), upTo(2), api.ErrCount)
		}
	}
	x := selects(at(0))
	x.Join, x.Group, x.Stmt.On, x.Stmt.Where = 0, 9, exprs(lit(no)), exprs(faults()[api.ErrOver])
	x.Stmt.Order = orders(rising(0))
	tells(t, "what no row comes to is not asked", x, upTo(2), upTo(2))
	x.Stmt.On = nil
	x.Stmt.Where = exprs(lit(no))
	tells(t, "nor is it behind a condition", x, upTo(2), upTo(2))
	x.Stmt.Where = nil
	refuses(t, "a place of no row, ahead of the order", x, upTo(2), upTo(2), api.ErrColumn)
	x.Group = -1
	refuses(t, "the order", x, upTo(2), upTo(2), api.ErrRange)
	x = selects(all())
	x.Stmt.Order = orders(rising(2))
	refuses(t, "the order of a group of no rows", x, nil, nil, api.ErrRange)
}

// tables is a catalog of t (a INT, b TEXT, c BOOL) and u (a INT, n INT).
func tables(t *testing.T) catalog.State {
	t.Helper()
	var s catalog.State
	for _, text := range []string{
		"create table t (a int, b text, c bool, primary key (a))",
		"create table u (a int, n int, primary key (a))",
	} {
		x, _, err := parse.Parse(text)
		if err == api.OK {
			s, err = catalog.Create(s, x)
		}
		if err != api.OK {
			t.Fatalf("%s: %d", text, err)
		}
	}
	return s
}

func typed(t *testing.T, s catalog.State, text string) check.Typed {
	t.Helper()
	x, _, err := parse.Parse(text)
	if err != api.OK {
		t.Fatalf("%s: parse %d", text, err)
	}
	y, err := check.Stmt(s, x)
	if err != api.OK {
		t.Fatalf("%s: check %d", text, err)
	}
	return y
}

// What layers 5 and 7 make of texts.
func TestP103SelectOfTexts(t *testing.T) {
	s := tables(t)
	first := []row{{num(1), text("x"), yes}, {num(2), text("y"), no}, {num(3), text("x"), null}, {num(4), null, yes}}
	second := []row{numbers(1, 30), {num(2), null}, numbers(3, 10), numbers(9, 10)}
	for text, want := range map[string][]row{
		"select a from t":                                                          {numbers(1), numbers(2), numbers(3), numbers(4)},
		"select b, a * 2 from t where c":                                           {{text("x"), num(2)}, {null, num(8)}},
		"select a from t where c or b = 'x' order by 1 desc":                       {numbers(4), numbers(3), numbers(1)},
		"select a from t where not c":                                              {numbers(2)},
		"select a from t order by 1 desc limit 2":                                  {numbers(4), numbers(3)},
		"select a from t limit 0":                                                  nil,
		"select a from t where null":                                               nil,
		"select b, count(*), max(a) from t group by b":                             {{null, num(1), num(4)}, {text("x"), num(2), num(3)}, {text("y"), num(1), num(2)}},
		"select b, sum(a) from t where a < 4 group by b order by 2 desc, 1 desc":   {{text("x"), num(4)}, {text("y"), num(2)}},
		"select count(*), count(b), count(c), sum(a), min(b), max(c) from t":       {{num(4), num(3), num(3), num(10), text("x"), yes}},
		"select count(*), sum(a) from t where a > 9":                               {{num(0), null}},
		"select b from t where a > 9 group by b":                                   nil,
		"select sum(a) / count(*), 'n' from t":                                     {{num(2), text("n")}},
		"select c from t group by c order by 1 desc":                               {{yes}, {no}, {null}},
		"select t.b, u.n from t join u on t.a = u.a":                               {{text("x"), num(30)}, {text("y"), null}, {text("x"), num(10)}},
		"select t.b, sum(u.n) from t join u on t.a = u.a group by t.b order by 2":  {{text("y"), null}, {text("x"), num(40)}},
		"select t.a, u.a from t join u on t.a > u.a where u.n is not null limit 2": {numbers(2, 1), numbers(3, 1)},
		"select count(*) from u join t on true":                                    {numbers(16)},
		"select n from u join t on u.a = t.a where c is null":                      {numbers(10)},
		"select n, count(*) from u group by n order by 2 desc, 1":                  {numbers(10, 2), {null, num(1)}, numbers(30, 1)},
	} {
		x := typed(t, s, text)
		l := [][]row{first, second}
		tells(t, text, x, l[x.Table], l[1-x.Table], want...)
	}
	for text, want := range map[string]api.Errno{
		"select a / (a - 3) from t":                            api.ErrZero,
		"select a from t where 1 / (a - 3) = 9":                api.ErrZero,
		"select sum(9223372036854775807) from t":               api.ErrOver,
		"select false and 1 / count(*) = 1 from u where a > 9": api.ErrZero,
		"select a from t where a > 2 and 6 / (a - 3) > 0":      api.ErrZero,
		"select t.a from t join u on 1 / (t.a - u.a) = 1":      api.ErrZero,
	} {
		x := typed(t, s, text)
		l := [][]row{first, second}
		refuses(t, text, x, l[x.Table], l[1-x.Table], want)
	}
	tells(t, "and hides an error where there is no group", typed(t, s, "select a, a <> 3 and 6 / (a - 3) > 0 from t"), first, nil,
		row{num(1), no}, row{num(2), no}, row{num(3), no}, row{num(4), yes})
}

// Where nothing is reckoned wrong, a filter of a filter is a filter of both.
func TestP104FilterOfFilter(t *testing.T) {
	l := slices.Concat(some(), upToWide(12))
	conditions := exprs(lit(yes), lit(no), lit(null), at(1), op(not, at(1)), op(isNull, at(1)), op(isNull, at(0)), op(isNotNull, at(2)),
		op(below, at(0), lit(num(3))), op(equal, at(0), lit(null)), op(atLeast, at(2), lit(text("b"))), op(equal, op(mul, at(0), at(0)), lit(num(4))))
	for i, p := range conditions[:12] {
		for _, q := range conditions[i:12] {
			conditions = append(conditions, op(and, p, q), op(or, q, p))
		}
	}
	for _, p := range conditions {
		first, err := query.Filter(l, exprs(p))
		if err != api.OK {
			t.Fatalf("Filter by %v: %d", p, err)
		}
		for _, q := range conditions {
			both, err := query.Filter(l, exprs(op(and, p, q)))
			if err != api.OK {
				t.Fatalf("Filter by %v and %v: %d", p, q, err)
			}
			filters(t, "a filter of a filter", first, exprs(q), both...)
		}
		filters(t, "a filter of itself", first, exprs(p), first...)
		filters(t, "a filter of none", first, nil, first...)
	}
}

// upToWide are rows of a number, a truth and a text.
func upToWide(n int) []row {
	var l []row
	for i := range n {
		l = append(l, row{num(i - 3), []api.Value{yes, no, null}[i%3], text(fmt.Sprint(i))})
	}
	return l
}
