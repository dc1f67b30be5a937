package query

import (
	"iter"
	"slices"
	"strings"

	"switchback/api"
	"switchback/eval"
	"switchback/value"
)

// pairs hands out each row of a with each one of b behind it.
func pairs(a [][]api.Value, b [][]api.Value) iter.Seq[[]api.Value] {
	return func(yield func(row []api.Value) bool) {
		for _, first := range a {
			for _, second := range b {
				if !yield(slices.Concat(first, second)) {
					return
				}
			}
		}
	}
}

// chosen answers the rows of which a condition is true, if these are not more
// than most.
func chosen(rows iter.Seq[[]api.Value], condition []api.Expr, most int) ([][]api.Value, api.Errno) {
	if len(condition) > 1 {
		return nil, api.ErrCount
	}
	var l [][]api.Value
	for row := range rows {
		is, err := holds(condition, row)
		switch {
		case err != api.OK:
			return nil, err
		case is && len(l) == most:
			return nil, api.ErrFull
		case is:
			l = append(l, row)
		}
	}
	return fresh(l), api.OK
}

// holds tells whether a condition is true of row. None is true of all.
func holds(condition []api.Expr, row []api.Value) (bool, api.Errno) {
	if len(condition) == 0 {
		return true, api.OK
	}
	return eval.True(condition[0], row)
}

// made answers a row of the items for each thing of l, be it a row or a group
// of rows.
func made[T any](l []T, items []api.Expr, item func(e api.Expr, of T) (api.Value, api.Errno)) ([][]api.Value, api.Errno) {
	var rows [][]api.Value
	for _, of := range l {
		var row []api.Value
		for _, e := range items {
			v, err := item(e, of)
			if err != api.OK {
				return nil, err
			}
			row = append(row, v)
		}
		rows = append(rows, row)
	}
	return rows, api.OK
}

// ordered answers which of two rows comes first in that order.
func ordered(order []api.Order) func(a []api.Value, b []api.Value) int {
	return func(a []api.Value, b []api.Value) int {
		for _, o := range order {
			first := value.Order(a[o.N-1], b[o.N-1])
			if o.Desc {
				first = -first
			}
			if first != 0 {
				return first
			}
		}
		return 0
	}
}

// sorted is l in that order, like rows as they come.
func sorted(l [][]api.Value, order func(a []api.Value, b []api.Value) int) [][]api.Value {
	l = slices.Clone(l)
	slices.SortStableFunc(l, order)
	return l
}

// fresh is l in memory of its own, its texts too.
func fresh(l [][]api.Value) [][]api.Value {
	next := make([][]api.Value, len(l))
	for i, row := range l {
		for _, v := range row {
			v.Text = strings.Clone(v.Text)
			next[i] = append(next[i], v)
		}
	}
	return next
}
