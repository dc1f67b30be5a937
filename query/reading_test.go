package query_test

import (
	"fmt"
	"maps"
	"slices"
	"testing"

	"switchback/api"
	"switchback/check"
	"switchback/eval"
	"switchback/query"
	"switchback/value"
)

// joinOf is a second reading of Join: pairs by their number.
func joinOf(a, b []row, on []api.Expr) ([]row, api.Errno) {
	if len(on) >= 2 {
		return nil, api.ErrCount
	}
	var l []row
	for n := range len(a) * len(b) {
		var pair row
		for _, v := range a[n/len(b)] {
			pair = append(pair, v)
		}
		for _, v := range b[n%len(b)] {
			pair = append(pair, v)
		}
		is, err := true, api.OK
		for _, e := range on {
			is, err = eval.True(e, pair)
		}
		if err != api.OK {
			return nil, err
		}
		if is {
			l = append(l, pair)
		}
		if len(l) == 4097 {
			return nil, api.ErrFull
		}
	}
	return l, api.OK
}

// filterOf is a second reading of Filter: of each row by itself.
func filterOf(l []row, where []api.Expr) ([]row, api.Errno) {
	if len(where) >= 2 {
		return nil, api.ErrCount
	}
	var left []row
	for _, r := range l {
		is, err := true, api.OK
		for _, e := range where {
			is, err = eval.True(e, r)
		}
		if err != api.OK {
			return nil, err
		}
		if is {
			left = append(left, r)
		}
	}
	return left, api.OK
}

func projectOf(l []row, items []api.Expr) ([]row, api.Errno) {
	var made []row
	for _, r := range l {
		next := row{}
		for _, e := range items {
			v, err := eval.Eval(e, r)
			if err != api.OK {
				return nil, err
			}
			next = append(next, v)
		}
		made = append(made, next)
	}
	return made, api.OK
}

// gatherOf is a second reading of Gather: of values that may be, a value is itself in a map.
func gatherOf(l []row, group int, items []api.Expr) ([]row, api.Errno) {
	groups := map[api.Value][]row{}
	if group < 0 {
		groups[null] = l
	}
	for _, r := range l {
		if group >= len(r) {
			return nil, api.ErrColumn
		}
		if group >= 0 {
			groups[r[group]] = append(groups[r[group]], r)
		}
	}
	var made []row
	for _, key := range slices.SortedFunc(maps.Keys(groups), value.Order) {
		next := row{}
		for _, e := range items {
			v, err := itemOf(e, groups[key], 1)
			if err != api.OK {
				return nil, err
			}
			next = append(next, v)
		}
		made = append(made, next)
	}
	return made, api.OK
}

// itemOf is a second reading of what an item is of a group: eval's ops are written out.
func itemOf(e api.Expr, g []row, level int) (api.Value, api.Errno) {
	if level == 13 {
		return null, api.ErrDeep
	}
	switch {
	case e.Op >= countAll && e.Op <= maxOf:
		return foldOf(e, g)
	case e.Op == column && len(g) == 0:
		return null, api.OK
	case e.Op == column:
		for i, v := range g[0] {
			if i == e.Value.N {
				return v, api.OK
			}
		}
		return null, api.ErrColumn
	case e.Op < 0 || e.Op > isNotNull:
		return null, api.ErrArg
	case len(e.Args) != argsOf(e.Op):
		return null, api.ErrCount
	}
	var l [2]api.Value
	for i, arg := range e.Args {
		v, err := itemOf(arg, g, level+1)
		if err != api.OK {
			return null, err
		}
		l[i] = v
	}
	switch e.Op {
	case 0:
		return e.Value, api.OK
	case neg:
		return value.Neg(l[0])
	case not:
		return value.Not(l[0])
	case isNull:
		return is(l[0].Kind == 0), api.OK
	case isNotNull:
		return is(l[0].Kind != 0), api.OK
	case and:
		if l[0] == no {
			return no, api.OK
		}
		return value.And(l[0], l[1])
	case or:
		if l[0] == yes {
			return yes, api.OK
		}
		return value.Or(l[0], l[1])
	}
	return value.Reckon(e.Op, l[0], l[1])
}

func foldOf(e api.Expr, g []row) (api.Value, api.Errno) {
	if e.Op == countAll {
		return num(len(g)), api.OK
	}
	if len(e.Args) != 1 {
		return null, api.ErrCount
	}
	var l []api.Value
	for _, r := range g {
		v, err := eval.Eval(e.Args[0], r)
		if err != api.OK {
			return null, err
		}
		l = append(l, v)
	}
	return eval.Fold(e.Op, l)
}

// sortOf is a second reading of Sort: the row that none comes ahead of, again and again.
func sortOf(l []row, order []api.Order, limit int) ([]row, api.Errno) {
	for _, o := range order {
		for _, r := range l {
			if !slices.Contains([]int{1, 2, 3, 4, 5, 6, 7, 8, 9, 10, 11, 12}[:len(r)], o.N) {
				return nil, api.ErrRange
			}
		}
	}
	ahead := func(a, b row) bool {
		for _, o := range order {
			if c := value.Order(a[o.N-1], b[o.N-1]); c != 0 {
				return c == 1 == o.Desc
			}
		}
		return false
	}
	var next []row
	for l = slices.Clone(l); len(l) > 0 && len(next) != limit; {
		best := 0
		for i := range l {
			if ahead(l[i], l[best]) {
				best = i
			}
		}
		next = append(next, l[best])
		l = slices.Delete(l, best, best+1)
	}
	return next, api.OK
}

// aggregated tells whether an aggregate stands in e.
func aggregated(e api.Expr) bool {
	if e.Op >= countAll && e.Op <= maxOf {
		return true
	}
	for _, arg := range e.Args {
		if aggregated(arg) {
			return true
		}
	}
	return false
}

func selectOf(x check.Typed, a, b []row) ([]row, api.Errno) {
	if x.Stmt.Kind != 7 {
		return nil, api.ErrKind
	}
	l, err := a, api.OK
	if x.Join >= 0 {
		if l, err = joinOf(a, b, x.Stmt.On); err != api.OK {
			return nil, err
		}
	}
	if l, err = filterOf(l, x.Stmt.Where); err != api.OK {
		return nil, err
	}
	if x.Group >= 0 || slices.ContainsFunc(x.Stmt.Items, aggregated) {
		l, err = gatherOf(l, x.Group, x.Stmt.Items)
	} else {
		l, err = projectOf(l, x.Stmt.Items)
	}
	if err != api.OK {
		return nil, err
	}
	return sortOf(l, x.Stmt.Order, x.Stmt.Limit)
}

// A roller makes rows, expressions and selects, most of which fit each other.
type roller func(n int) int

// row is one of a number, a number, a truth and a text.
func (next roller) row() row {
	r := row{num(next(5) - 2), num(next(3) << (31 * next(3))), is(next(2) == 0), text(fmt.Sprint(next(4)))}
	for i := range r {
		if next(6) == 0 {
			r[i] = null
		}
	}
	if next(150) == 0 {
		return r[:next(4)]
	}
	return r
}

func (next roller) rows(most int) []row {
	var l []row
	for range next(most + 1) {
		l = append(l, next.row())
	}
	return l
}

// part is an expression over rows of so many rows side by side; kinds of it are those of values; folds tells whether there may be aggregates.
func (next roller) part(kind, levels, rows int, folds bool) api.Expr {
	if next(60) == 0 {
		kind = 1 + next(3)
	}
	if next(200) == 0 {
		return []api.Expr{op(-1), op(99), op(neg), op(sum), {Args: make([]api.Expr, 1)}, op(add, lit(yes)), at(-1), at(8), all(), {Op: column, Value: num(1), Args: make([]api.Expr, 2)}}[next(10)]
	}
	more := func(kind int) api.Expr { return next.part(kind, levels-1, rows, folds) }
	switch {
	case folds && next(3) == 0:
		return next.aggregate(kind, levels, rows)
	case levels <= 1 || next(8) == 0 || kind == 3:
		return next.leaf(kind, rows)
	case kind == 1 && next(5) == 0:
		return op(neg, more(1))
	case kind == 1:
		return op(add+next(4), more(1), more(1))
	case next(5) == 0:
		return op(isNull+next(2), more(1+next(3)))
	case next(2) == 0:
		return op(and+next(2), more(2), more(2))
	case next(5) == 0:
		return op(not, more(2))
	}
	of := 1 + next(3)
	return op(equal+next(6), more(of), more(of))
}

func (next roller) leaf(kind, rows int) api.Expr {
	places := [...][]int{1: {0, 1}, 2: {2}, 3: {3}}[kind]
	if next(2) == 0 {
		return at(places[next(len(places))] + 4*next(rows))
	}
	return lit([]api.Value{null, [...]api.Value{1: num(next(5) - 2), 2: is(next(2) == 0), 3: text(fmt.Sprint(next(4)))}[kind]}[min(1, next(5))])
}

func (next roller) aggregate(kind, levels, rows int) api.Expr {
	arg := next.part(kind, levels-1, rows, false)
	switch {
	case kind == 1 && next(3) == 0:
		return all()
	case kind == 1 && next(3) == 0:
		return op(count, arg)
	case kind == 1 && next(2) == 0:
		return op(sum, arg)
	}
	return op(minOf+next(2), arg)
}

// items are some expressions, now and then within many others.
func (next roller) items(rows int, folds bool) []api.Expr {
	var l []api.Expr
	for range next(4) {
		kind := 1 + next(3)
		e := next.part(kind, 1+next(5), rows, folds)
		if kind < 3 && next(30) == 0 {
			for range next(14) {
				e = op(neg+kind-1, e)
			}
		}
		l = append(l, e)
	}
	return l
}

// condition is none or one; rarely it is two.
func (next roller) condition(rows int) []api.Expr {
	var l []api.Expr
	for range max(min(1, next(3)), next(60)-57) {
		l = append(l, next.part(2, 1+next(4), rows, false))
	}
	return l
}

func (next roller) orders(n int) []api.Order {
	var l []api.Order
	for range next(4) {
		o := api.Order{N: 1 + next(max(1, n)), Desc: next(2) == 0}
		if next(60) == 0 {
			o.N = next(8) - 2
		}
		l = append(l, o)
	}
	return l
}

func (next roller) selects() check.Typed {
	x := check.Typed{Table: next(3), Join: -1 - next(2), Group: -1 - next(2)}
	rows := 1
	if next(2) == 0 {
		x.Join, rows = next(3), 2
	}
	folds := next(2) == 0
	if next(3) == 0 {
		x.Group, folds = next(4*rows), next(4) > 0
	}
	x.Stmt = api.Stmt{Kind: 7, Items: next.items(rows, folds), Limit: next(5) - 1}
	if next(150) == 0 {
		x.Stmt.Kind = next(12)
	}
	if next(80) == 0 {
		x.Group = next(12)
	}
	x.Stmt.On, x.Stmt.Where, x.Stmt.Order = next.condition(rows), next.condition(rows), next.orders(len(x.Stmt.Items))
	return x
}

// agrees holds that a call told what the second reading tells, and counts what that was.
func agrees(t *testing.T, seen map[string]int, call string, asked any, l []row, err api.Errno, want []row, wrong api.Errno) {
	t.Helper()
	if !same(l, want) || err != wrong {
		t.Fatalf("%s of %v = %s, %d, not %s, %d", call, asked, brief(l), err, brief(want), wrong)
	}
	seen[fmt.Sprint(call, wrong)]++
	if len(want) > 1 {
		seen[call+" of many"]++
	}
}

func TestP101P102P103RolledCalls(t *testing.T) {
	next := roller(rolled(101))
	seen := map[string]int{}
	for range 30000 {
		a, b := next.rows(6), next.rows(4)
		on, where := next.condition(2), next.condition(1)
		l, err := query.Join(a, b, on)
		want, wrong := joinOf(a, b, on)
		agrees(t, seen, "Join", []any{a, b, on}, l, err, want, wrong)

		l, err = query.Filter(a, where)
		want, wrong = filterOf(a, where)
		agrees(t, seen, "Filter", []any{a, where}, l, err, want, wrong)

		items := next.items(1, next(20) == 0)
		l, err = query.Project(a, items)
		want, wrong = projectOf(a, items)
		agrees(t, seen, "Project", []any{a, items}, l, err, want, wrong)

		group := next(6) - 1
		items = next.items(1, true)
		l, err = query.Gather(a, group, items)
		want, wrong = gatherOf(a, group, items)
		agrees(t, seen, "Gather", []any{a, group, items}, l, err, want, wrong)

		order, limit := next.orders(4), next(8)-2
		l, err = query.Sort(a, order, limit)
		want, wrong = sortOf(a, order, limit)
		agrees(t, seen, "Sort", []any{a, order, limit}, l, err, want, wrong)
	}
	wide := []api.Errno{api.OK, api.ErrArg, api.ErrCount, api.ErrColumn, api.ErrType, api.ErrOver, api.ErrZero}
	for call, errs := range map[string][]api.Errno{"Join": wide, "Filter": wide, "Project": append(wide, api.ErrDeep), "Gather": append(wide, api.ErrDeep), "Sort": {api.OK, api.ErrRange}} {
		for _, err := range errs {
			if seen[fmt.Sprint(call, err)] < 20 {
				t.Errorf("only %d of %s told %d", seen[fmt.Sprint(call, err)], call, err)
			}
		}
		if seen[call+" of many"] < 1000 {
			t.Errorf("only %d of %s told many rows", seen[call+" of many"], call)
		}
	}
}

func TestP103RolledSelects(t *testing.T) {
	next := roller(rolled(103))
	seen := map[string]int{}
	for range 60000 {
		x, a, b := next.selects(), next.rows(7), next.rows(4)
		l, err := query.Select(x, a, b)
		want, wrong := selectOf(x, a, b)
		agrees(t, seen, "Select", []any{x, a, b}, l, err, want, wrong)
	}
	for _, err := range []api.Errno{api.OK, api.ErrKind, api.ErrArg, api.ErrCount, api.ErrColumn, api.ErrType, api.ErrOver, api.ErrZero, api.ErrDeep, api.ErrRange} {
		if seen[fmt.Sprint("Select", err)] < 50 {
			t.Errorf("only %d of Select told %d", seen[fmt.Sprint("Select", err)], err)
		}
	}
	if seen["Select of many"] < 5000 {
		t.Errorf("only %d of Select told many rows", seen["Select of many"])
	}
}

// Joins of many rows, at the end of the room.
func TestP101RolledJoinsAtTheEndOfTheRoom(t *testing.T) {
	next := roller(rolled(110))
	seen := map[string]int{}
	for range 150 {
		a, b := upTo(40+next(60)), upTo(40+next(60))
		pairs := len(a) * len(b)
		number := op(add, op(mul, at(0), lit(num(len(b)))), at(1))
		odd := 2 + next(4)
		each := op(unlike, op(mul, op(div, number, lit(num(odd))), lit(num(odd))), number)
		byZero := op(isNotNull, op(div, lit(num(1)), op(sub, number, lit(num(4000+next(pairs))))))
		on := exprs(op(and, byZero, []api.Expr{each, lit(yes)}[next(2)]))
		l, err := query.Join(a, b, on)
		want, wrong := joinOf(a, b, on)
		agrees(t, seen, "Join", []any{len(a), len(b), on}, l, err, want, wrong)
	}
	for _, err := range []api.Errno{api.OK, api.ErrFull, api.ErrZero} {
		if seen[fmt.Sprint("Join", err)] < 10 {
			t.Errorf("only %d of Join told %d", seen[fmt.Sprint("Join", err)], err)
		}
	}
}

// Wherever nothing is reckoned wrong, a filter of a filter is a filter of both.
func TestP104RolledFilters(t *testing.T) {
	next := roller(rolled(104))
	right, some := 0, 0
	for range 30000 {
		l := next.rows(8)
		p, q := next.part(2, 1+next(4), 1, false), next.part(2, 1+next(4), 1, false)
		first, err := query.Filter(l, exprs(p))
		_, wrong := query.Filter(l, exprs(q))
		if err != api.OK || wrong != api.OK {
			continue
		}
		twice, err := query.Filter(first, exprs(q))
		both, wrong := query.Filter(l, exprs(op(and, p, q)))
		if !same(twice, both) || err != api.OK || wrong != api.OK {
			t.Fatalf("Filter of %v by %v, then %v = %s, %d; by both %s, %d", l, p, q, brief(twice), err, brief(both), wrong)
		}
		right++
		some += min(1, len(both))
	}
	if right < 10000 || some < 2000 {
		t.Errorf("only %d filters were right, %d of them told rows", right, some)
	}
}
