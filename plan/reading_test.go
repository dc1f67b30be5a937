package plan_test

import (
	"cmp"
	"fmt"
	"slices"
	"testing"

	"switchback/api"
	"switchback/catalog"
	"switchback/eval"
	"switchback/keycode"
	"switchback/plan"
	"switchback/value"
)

// A cut parts all values in two: it stands just ahead of a value, or just behind it; or ahead of all, or behind all.
type cut struct {
	open int
	v    api.Value
	side int
}

func lowCut(b plan.Bound) cut {
	switch {
	case b.Open:
		return cut{open: -1}
	case b.In:
		return cut{0, b.Value, -1}
	}
	return cut{0, b.Value, 1}
}

func highCut(b plan.Bound) cut {
	switch {
	case b.Open:
		return cut{open: 1}
	case b.In:
		return cut{0, b.Value, 1}
	}
	return cut{0, b.Value, -1}
}

func orderCuts(a, b cut) int {
	if a.open != 0 || b.open != 0 {
		return cmp.Compare(a.open, b.open)
	}
	return cmp.Or(value.Order(a.v, b.v), cmp.Compare(a.side, b.side))
}

// readMeet and the others below read the chapter once more, by cuts.
func readMeet(a, b plan.Plan) plan.Plan {
	// Of several that are as good MaxFunc and MinFunc tell the first.
	low := slices.MaxFunc([]plan.Bound{a.Low, b.Low}, func(x, y plan.Bound) int { return orderCuts(lowCut(x), lowCut(y)) })
	high := slices.MinFunc([]plan.Bound{a.High, b.High}, func(x, y plan.Bound) int { return orderCuts(highCut(x), highCut(y)) })
	if a.Empty || b.Empty || orderCuts(lowCut(low), highCut(high)) >= 0 {
		return plan.Plan{Index: a.Index, Empty: true}
	}
	return plan.Plan{Index: a.Index, Low: low, High: high}
}

func readHas(p plan.Plan, v api.Value) bool {
	return v.Kind != 0 && !p.Empty && orderCuts(lowCut(p.Low), cut{v: v}) < 0 && orderCuts(cut{v: v}, highCut(p.High)) < 0
}

func readDepth(e api.Expr) int {
	n := 0
	for _, a := range e.Args {
		n = max(n, readDepth(a))
	}
	return n + 1
}

func readReckons(e api.Expr) bool {
	return slices.Contains([]int{2, 4, 5, 6, 7}, e.Op) || slices.ContainsFunc(e.Args, readReckons)
}

func readConditions(e api.Expr) []api.Expr {
	if e.Op == 14 && len(e.Args) == 2 {
		return append(readConditions(e.Args[0]), readConditions(e.Args[1])...)
	}
	return []api.Expr{e}
}

func readAsk(e api.Expr, column, kind int) plan.Plan {
	nothing := plan.Plan{Low: open, High: open}
	if len(e.Args) != 2 {
		return nothing
	}
	n, c, v := e.Op, e.Args[0], e.Args[1]
	if c.Op == 0 {
		c, v = v, c
		n = map[int]int{8: 8, 10: 12, 11: 13, 12: 10, 13: 11}[n]
	}
	if c.Op != 1 || c.Value.N != column || v.Op != 0 {
		return nothing
	}
	low, high := open, open
	switch n {
	case 8:
		low, high = in(v.Value), in(v.Value)
	case 10:
		high = out(v.Value)
	case 11:
		high = in(v.Value)
	case 12:
		low = out(v.Value)
	case 13:
		low = in(v.Value)
	default:
		return nothing
	}
	switch v.Value.Kind {
	case 0:
		return plan.Plan{Empty: true}
	case kind:
		return plan.Plan{Low: low, High: high}
	}
	return nothing
}

func readChoose(t catalog.Table, where []api.Expr) (plan.Plan, api.Errno) {
	all := plan.Plan{Index: -1, Low: open, High: open}
	switch {
	case catalog.Check(catalog.State{Tables: []catalog.Table{t}}) != api.OK:
		return plan.Plan{}, api.ErrState
	case len(where) > 1:
		return plan.Plan{}, api.ErrCount
	case len(where) == 0:
		return all, api.OK
	case readDepth(where[0]) > 12:
		return plan.Plan{}, api.ErrDeep
	case readReckons(where[0]):
		return all, api.OK
	}
	columns := []int{t.Key}
	for _, x := range t.Indexes {
		columns = append(columns, x.Column)
	}
	var byWish [3][]plan.Plan
	for i, c := range columns {
		p := plan.Plan{Index: i, Low: open, High: open}
		for _, e := range readConditions(where[0]) {
			p = readMeet(p, readAsk(e, c, t.Columns[c].Kind))
		}
		switch {
		case p.Empty:
			byWish[0] = append(byWish[0], p)
		case p.Low.Open && p.High.Open:
		case p.Low.Open || p.High.Open || value.Order(p.Low.Value, p.High.Value) != 0:
			byWish[2] = append(byWish[2], p)
		default:
			byWish[1] = append(byWish[1], p)
		}
	}
	return append(slices.Concat(byWish[0], byWish[1], byWish[2]), all)[0], api.OK
}

// All plans of a few bounds, each with each.
func TestP131EachPlanWithEach(t *testing.T) {
	few := []api.Value{num(1), num(2), truth(0), text("a")}
	for _, a := range spans(few) {
		for _, b := range spans(few) {
			p, want := plan.Meet(a, b), readMeet(a, b)
			if p != want {
				t.Fatalf("Meet(%+v, %+v) = %+v, not %+v", a, b, p, want)
			}
			for _, v := range []api.Value{num(0), num(1), num(2), num(3), truth(0), truth(1), text("a"), text("b"), null} {
				if plan.Has(p, v) != (plan.Has(a, v) && plan.Has(b, v)) {
					t.Fatalf("Has(Meet(%+v, %+v), %+v) = %t", a, b, v, plan.Has(p, v))
				}
			}
		}
	}
	for _, p := range spans(values()) {
		for _, v := range append(values(), num(3), text("b"), truth(7), api.Value{Kind: 9}, api.Value{Kind: -1}) {
			if is := plan.Has(p, v); is != readHas(p, v) {
				t.Fatalf("Has(%+v, %+v) = %t", p, v, is)
			}
		}
	}
}

// rolled are numbers from 0 to below n, as many as one likes.
func rolled(seed uint64) func(n int) int {
	return func(n int) int {
		seed = seed*6364136223846793005 + 1442695040888963407
		return int(seed >> 33 % uint64(n))
	}
}

// A roller rolls tables, conditions and rows.
type roller struct {
	next func(n int) int
	// wild is that things need not be as check would make them.
	wild bool
}

func (r roller) value(kind int) api.Value {
	switch kind {
	case 1:
		return num(r.next(6) - 1)
	case 2:
		return truth(r.next(2))
	case 3:
		return text([]string{"", "a", "ab", "b", "\x00"}[r.next(5)])
	}
	return null
}

func (r roller) table() catalog.Table {
	t := catalog.Table{Name: "t"}
	for i := range 1 + r.next(4) {
		t.Columns = append(t.Columns, api.Column{Name: string(rune('a' + i)), Kind: 1 + r.next(3), NotNull: r.next(3) == 0})
	}
	t.Key = r.next(len(t.Columns))
	t.Columns[t.Key].NotNull = true
	for i := range r.next(5) {
		t.Indexes = append(t.Indexes, catalog.Index{Name: string(rune('i' + i)), Column: r.next(len(t.Columns))})
	}
	if r.wild && r.next(20) == 0 {
		t.Key = r.next(5) - 1
	}
	return t
}

// comparison is of a column and a literal, mostly.
func (r roller) comparison(t catalog.Table) api.Expr {
	place := r.next(len(t.Columns))
	kind := t.Columns[place].Kind
	v := r.value(kind)
	if r.next(20) == 0 {
		v = null
	}
	if r.wild && r.next(8) == 0 {
		v = []api.Value{num(1), truth(1), text("a"), {Kind: 4}, {Kind: kind, N: 2, Text: "x"}}[r.next(5)]
	}
	e := op([]int{8, 8, 9, 10, 11, 12, 13}[r.next(7)], col(place), lit(v))
	if r.next(2) == 0 {
		slices.Reverse(e.Args)
	}
	if r.wild && r.next(12) == 0 {
		e.Args = [][]api.Expr{nil, {lit(v)}, {lit(v), lit(v)}, {col(place), col(place)}, {col(place), lit(v), lit(v)}, {col(place), col(r.next(6) - 1)}, {col(r.next(6) - 1), lit(v)}}[r.next(7)]
	}
	return e
}

func (r roller) condition(t catalog.Table, most int) api.Expr {
	if most == 0 {
		return r.comparison(t)
	}
	switch n := r.next(20); {
	case n < 12:
		return op(14, r.condition(t, most-1), r.condition(t, most-1))
	case n < 14:
		return op(15, r.condition(t, most-1), r.condition(t, most-1))
	case n == 14:
		return op(3, r.condition(t, most-1))
	case n == 15 && r.next(3) == 0:
		return op(16+r.next(2), col(r.next(len(t.Columns))))
	case n == 16 && r.next(8) == 0:
		return op(8, op(4+r.next(4), lit(num(1)), lit(num(r.next(2)))), lit(num(1)))
	case n == 17 && r.wild:
		e := r.condition(t, most-1)
		return api.Expr{Op: r.next(26) - 1, Args: []api.Expr{e, e, e}[:r.next(4)]}
	}
	return r.comparison(t)
}

func (r roller) where(t catalog.Table) []api.Expr {
	if r.wild && r.next(30) == 0 {
		return make([]api.Expr, 2*r.next(2))
	}
	most := r.next(5)
	if r.wild && r.next(15) == 0 {
		return []api.Expr{deep(10+r.next(4), []int{3, 14, 8}[r.next(3)], r.comparison(t))}
	}
	return []api.Expr{r.condition(t, most)}
}

func (r roller) row(t catalog.Table) []api.Value {
	var row []api.Value
	for _, c := range t.Columns {
		v := r.value(c.Kind)
		if !c.NotNull && r.next(5) == 0 {
			v = null
		}
		row = append(row, v)
	}
	return row
}

func kindOf(p plan.Plan, err api.Errno) string {
	switch {
	case err != api.OK:
		return fmt.Sprint("error ", err)
	case p.Empty:
		return "empty"
	case p.Low.Open && p.High.Open:
		return "all rows"
	case !p.Low.Open && !p.High.Open && p.Low.Value == p.High.Value:
		return "one value"
	}
	return "bounded"
}

func TestP132RolledConditions(t *testing.T) {
	met := map[string]int{}
	for _, wild := range []bool{false, true} {
		r := roller{rolled(132), wild}
		for range 60000 {
			of := r.table()
			where := r.where(of)
			p, err := plan.Choose(of, where)
			if want, wanted := readChoose(of, where); p != want || err != wanted {
				t.Fatalf("Choose(%+v, %+v) = %+v, %d, not %+v, %d", of, where, p, err, want, wanted)
			}
			met[kindOf(p, err)]++
		}
	}
	for _, kind := range []string{"empty", "one value", "bounded", "all rows", "error 3", "error 9", "error 10"} {
		if met[kind] < 200 {
			t.Errorf("too few: %s", fmt.Sprint(met))
		}
	}
}

// Rows of which the conditions are true lie where the plan says.
func TestP134RolledRows(t *testing.T) {
	r := roller{next: rolled(134)}
	trues, within := 0, 0
	for range 20000 {
		of := r.table()
		where := r.where(of)
		p, err := plan.Choose(of, where)
		low, high, keysErr := plan.Keys(p)
		if err != api.OK || keysErr != api.OK {
			t.Fatalf("Choose(%+v, %+v) = %d; Keys(%+v) = %d", of, where, err, p, keysErr)
		}
		for range 8 {
			row := r.row(of)
			is, _ := eval.True(where[0], row)
			if !is {
				continue
			}
			trues++
			column, entry := of.Key, []api.Value{row[of.Key]}
			if p.Index > 0 {
				column = of.Indexes[p.Index-1].Column
				entry = []api.Value{row[column], row[of.Key]}
			}
			key, _ := keycode.Encode(entry)
			if p.Index >= 0 && !plan.Has(p, row[column]) || key < low || high != "" && key >= high {
				t.Fatalf("%+v is true of %+v, but %+v holds it not (%x in %x to %x)", where, row, p, key, low, high)
			}
			if p.Index >= 0 {
				within++
			}
		}
	}
	if trues < 20000 || within < 10000 {
		t.Errorf("just %d rows, %d by an index", trues, within)
	}
}
