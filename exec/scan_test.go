package exec_test

import (
	"fmt"
	"slices"
	"testing"

	"switchback/api"
	"switchback/exec"
	"switchback/plan"
	"switchback/value"
)

func in(v api.Value) plan.Bound { return plan.Bound{Value: v, In: true} }

func out(v api.Value) plan.Bound { return plan.Bound{Value: v} }

var open = plan.Bound{Open: true}

func span(index int, low, high plan.Bound) plan.Plan {
	return plan.Plan{Index: index, Low: low, High: high}
}

func empty(index int) plan.Plan { return plan.Plan{Index: index, Empty: true} }

// picked are the rows of those keys, in that order.
func picked(t *testing.T, l []row, keys ...int) []row {
	t.Helper()
	var some []row
	for _, key := range keys {
		at := slices.IndexFunc(l, func(r row) bool { return r[1] == num(key) })
		if at < 0 {
			t.Fatal("no row of key", key)
		}
		some = append(some, l[at])
	}
	return some
}

func scans(t *testing.T, s exec.Store, p plan.Plan, want []row) {
	t.Helper()
	if l, err := exec.Scan(s, p); err != api.OK || !sameRows(l, want) {
		t.Errorf("Scan(%+v) = %s, %d, not %s", p, brief(l), err, brief(want))
	}
}

func refusesScan(t *testing.T, s exec.Store, p plan.Plan, want api.Errno) {
	t.Helper()
	if l, err := exec.Scan(s, p); len(l) > 0 || err != want {
		t.Errorf("Scan(%+v) = %s, %d, not %d", p, brief(l), err, want)
	}
}

func TestP142ScanByHand(t *testing.T) {
	l := someRows() // by key: -300, -1, 0, 2, 255, 256, 257
	s := laid(t, table(0, 3, 2, 1), l)
	for _, x := range []struct {
		p    plan.Plan
		keys []int
	}{
		{span(-1, open, open), []int{-300, -1, 0, 2, 255, 256, 257}},
		{span(0, open, open), []int{-300, -1, 0, 2, 255, 256, 257}},
		{span(0, in(num(0)), open), []int{0, 2, 255, 256, 257}},
		{span(0, out(num(0)), open), []int{2, 255, 256, 257}},
		{span(0, open, in(num(256))), []int{-300, -1, 0, 2, 255, 256}},
		{span(0, open, out(num(256))), []int{-300, -1, 0, 2, 255}},
		{span(0, in(num(-1)), in(num(2))), []int{-1, 0, 2}},
		{span(0, out(num(-1)), out(num(2))), []int{0}},
		{span(0, in(num(2)), in(num(2))), []int{2}},
		{span(0, in(num(3)), in(num(3))), nil},
		{span(0, in(num(1000)), open), nil},
		{span(0, open, out(num(-300))), nil},
		{span(0, in(num(2)), in(num(0))), nil},
		{span(1, open, open), []int{0, 257, -300, 2, 255}},
		{span(1, in(text("x")), open), []int{-300, 2, 255}},
		{span(1, out(text("x")), open), []int{255}},
		{span(1, in(text("x")), in(text("x"))), []int{-300, 2}},
		{span(1, open, out(text("x"))), []int{0, 257}},
		{span(1, out(text("")), out(text("x"))), []int{257}},
		{span(2, open, open), []int{2, 257, -1, 0, 255}},
		{span(2, in(num(7)), in(num(7))), []int{-1, 0}},
		{span(2, out(num(7)), open), []int{255}},
		{span(2, open, out(num(0))), []int{2}},
		{span(3, open, open), []int{-1, 255, -300, 2, 257}},
		{span(3, in(truth(1)), in(truth(1))), []int{-300, 2, 257}},
		{span(3, open, out(truth(1))), []int{-1, 255}},
		{span(4, open, open), []int{-300, -1, 0, 2, 255, 256, 257}},
		{span(4, out(num(-1)), in(num(255))), []int{0, 2, 255}},
		// A bound of NULL is a value as others are.
		{span(1, in(null), open), []int{-1, 256, 0, 257, -300, 2, 255}},
		{span(1, in(null), in(null)), []int{-1, 256}},
		{span(1, out(null), open), []int{0, 257, -300, 2, 255}},
		{span(1, open, in(null)), nil},
		// Bounds of other kinds go by their order.
		{span(2, in(text("")), open), nil},
		{span(2, open, in(text(""))), []int{2, 257, -1, 0, 255}},
		{span(1, in(truth(1)), open), []int{0, 257, -300, 2, 255}},
	} {
		scans(t, s, x.p, picked(t, l, x.keys...))
	}
}

// An Empty plan's bounds are not asked. Of Index -1 all rows are told, whatever else the plan says.
func TestP142ScanOfEmptyPlansAndOfAllRows(t *testing.T) {
	bad := api.Value{Kind: 2, N: 2}
	bounds := []plan.Bound{{}, open, in(num(2)), out(num(2)), in(text("x")), in(bad), out(bad)}
	for _, columns := range fewer() {
		for _, l := range [][]row{nil, someRows()} {
			s := laid(t, table(columns...), l)
			for index := range len(columns) + 1 {
				scans(t, s, empty(index), nil)
				for _, b := range bounds {
					scans(t, s, plan.Plan{Index: index, Low: b, High: b, Empty: true}, nil)
				}
			}
			for _, low := range bounds {
				for _, high := range bounds {
					scans(t, s, plan.Plan{Index: -1, Low: low, High: high, Empty: true}, l)
					if low.Value != bad && high.Value != bad {
						scans(t, s, span(-1, low, high), l)
					}
				}
			}
		}
	}
}

func TestP142ScanErrors(t *testing.T) {
	for _, columns := range fewer() {
		for _, l := range [][]row{nil, someRows()} {
			s := laid(t, table(columns...), l)
			n := len(columns)
			for _, bad := range []api.Value{{Kind: 4}, {Kind: -1}, {Kind: 2, N: 2}, {Kind: 1, N: 1, Text: "x"}, {N: 1}, {Text: "x"}, {Kind: 3, N: 1}} {
				for _, b := range []plan.Bound{in(bad), out(bad)} {
					for index := -1; index <= n; index++ {
						for _, p := range []plan.Plan{span(index, b, open), span(index, open, b), span(index, b, b), span(index, in(num(1)), b), span(index, b, in(num(1)))} {
							refusesScan(t, s, p, api.ErrState)
						}
						// An open bound's value is not asked.
						b := plan.Bound{Open: true, Value: bad, In: b.In}
						if p, err := exec.Scan(s, span(index, b, b)); err != api.OK || index < 1 && len(p) != len(l) {
							t.Errorf("open bounds: %v, %d", p, err)
						}
					}
					refusesScan(t, s, span(-2, b, b), api.ErrRange)
					refusesScan(t, s, span(n+1, b, b), api.ErrRange)
				}
			}
			for _, index := range []int{-2, -3, -1 << 63, n + 1, n + 2, 1000, 1<<63 - 1} {
				refusesScan(t, s, span(index, open, open), api.ErrRange)
				refusesScan(t, s, span(index, in(num(1)), open), api.ErrRange)
				refusesScan(t, s, empty(index), api.ErrRange)
			}
			scans(t, s, span(-1, open, open), l)
			scans(t, s, span(0, open, open), l)
		}
	}
}

// readScan reads the chapter once more: by the order of values, not of octets.
func readScan(s exec.Store, l []row, p plan.Plan) []row {
	l = slices.Clone(l)
	if p.Index < 0 {
		return l
	}
	column := s.Table.Key
	if p.Index > 0 {
		column = s.Table.Indexes[p.Index-1].Column
	}
	l = slices.DeleteFunc(l, func(r row) bool {
		low, high := value.Order(r[column], p.Low.Value), value.Order(r[column], p.High.Value)
		switch {
		case p.Empty, p.Low.Open && r[column] == null, !p.Low.Open && low < 0, !p.High.Open && high > 0:
			return true
		}
		return !p.Low.Open && low == 0 && !p.Low.In || !p.High.Open && high == 0 && !p.High.In
	})
	slices.SortStableFunc(l, func(a, b row) int { return value.Order(a[column], b[column]) })
	return l
}

// All plans of a few bounds, on all trees of a store.
func TestP142ScanOfAllPlans(t *testing.T) {
	bounds := []plan.Bound{open}
	for _, v := range []api.Value{null, num(-301), num(-300), num(-1), num(0), num(3), num(7), num(256), truth(0), truth(1), text(""), text("a"), text("x"), text("x\x00"), text("x\x01")} {
		bounds = append(bounds, in(v), out(v))
	}
	told := 0
	for _, columns := range [][]int{{0, 1, 2, 3}, {3, 0}} {
		l := someRows()
		s := laid(t, table(columns...), l)
		for index := -1; index <= len(columns); index++ {
			for _, low := range bounds {
				for _, high := range bounds {
					p := span(index, low, high)
					want := readScan(s, l, p)
					scans(t, s, p, want)
					told += len(want)
				}
			}
		}
	}
	if told < 10000 {
		t.Error("just", told, "rows")
	}
}

// Of many rows, in trees of several layers, a few at a time.
func TestP142ScanOfManyRows(t *testing.T) {
	next := rolled(1421)
	for _, n := range []int{30, 256} {
		l := numbered(n)
		for _, s := range []exec.Store{laid(t, table(0, 1, 2, 3), l), made(t, table(0, 1, 2, 3), shuffled(l, next)...)} {
			for index := -1; index <= 4; index++ {
				for low := -10; low <= 110; low += 17 {
					for high := low - 2; high <= low+20; high += 5 {
						for way := range 4 {
							p := span(index, plan.Bound{Value: num(low), In: way%2 > 0}, plan.Bound{Value: num(high), In: way > 1})
							if index == 1 {
								p.Low.Value, p.High.Value = text(fmt.Sprint("t", low%8)), text(fmt.Sprint("t", high%8))
							}
							if high%3 == 0 {
								p.High = open
							}
							scans(t, s, p, readScan(s, l, p))
						}
					}
				}
			}
		}
	}
}
