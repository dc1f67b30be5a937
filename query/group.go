package query

import (
	"switchback/api"
	"switchback/eval"
)

// The ops of an api.Expr that are not the same over a group as over a row.
const (
	opColumn   = 1
	opCountAll = 18
	opMax      = 22
)

func isAggregate(op int) bool {
	return op >= opCountAll && op <= opMax
}

// An argList is Args as they lie in memory.
type argList struct {
	first *api.Expr
	n     int
}

// hasAggregate tells whether there is one in the items, however deep. Args that
// were seen are not gone through again, as they may be parts of themselves.
func hasAggregate(items []api.Expr) bool {
	seen := map[argList]struct{}{}
	todo := [][]api.Expr{items}
	for i := 0; i < len(todo); i++ {
		for _, e := range todo[i] {
			if isAggregate(e.Op) {
				return true
			}
			if len(e.Args) == 0 {
				continue
			}
			args := argList{&e.Args[0], len(e.Args)}
			if _, is := seen[args]; !is {
				seen[args] = struct{}{}
				todo = append(todo, e.Args)
			}
		}
	}
	return false
}

// A group is rows of which items are reckoned as of one.
type group [][]api.Value

// grouped answers the rows in groups by the value at a place, or, where that
// is below 0, in one.
func grouped(l [][]api.Value, place int) ([]group, api.Errno) {
	if place < 0 {
		return []group{l}, api.OK
	}
	for _, row := range l {
		if place >= len(row) {
			return nil, api.ErrColumn
		}
	}
	order := ordered([]api.Order{{N: place + 1}})
	l = sorted(l, order)
	var groups []group
	for i, row := range l {
		if i == 0 || order(l[i-1], row) != 0 {
			groups = append(groups, nil)
		}
		last := len(groups) - 1
		groups[last] = append(groups[last], row)
	}
	return groups, api.OK
}

// reckoned answers what e is of g.
func reckoned(e api.Expr, g group) (api.Value, api.Errno) {
	return g.part(e, 1)
}

// part answers what e is, which is the deep-th of parts within each other.
func (g group) part(e api.Expr, deep int) (api.Value, api.Errno) {
	switch {
	case deep > api.MaxDepth:
		return api.Value{}, api.ErrDeep
	case isAggregate(e.Op):
		return g.aggregate(e)
	case e.Op == opColumn:
		return g.column(e.Value.N)
	}
	return g.other(e, deep)
}

// aggregate answers what e makes of the values that its Arg has in the rows.
func (g group) aggregate(e api.Expr) (api.Value, api.Errno) {
	l := make([]api.Value, len(g))
	if e.Op == opCountAll {
		return eval.Fold(e.Op, l)
	}
	if len(e.Args) != 1 {
		return api.Value{}, api.ErrCount
	}
	for i, row := range g {
		v, err := eval.Eval(e.Args[0], row)
		if err != api.OK {
			return api.Value{}, err
		}
		l[i] = v
	}
	return eval.Fold(e.Op, l)
}

// column answers the value at a place in the first row: where the rows are
// grouped by it, all have that one.
func (g group) column(place int) (api.Value, api.Errno) {
	if len(g) == 0 {
		return api.Value{}, api.OK
	}
	return eval.Eval(api.Expr{Op: opColumn, Value: api.Value{N: place}}, g[0])
}

// other answers what eval makes of e, with what its Args are of the group in
// their places.
func (g group) other(e api.Expr, deep int) (api.Value, api.Errno) {
	args := make([]api.Expr, len(e.Args))
	// Of NULLs eval refuses nothing but the op, and how many Args it has.
	if _, err := eval.Eval(api.Expr{Op: e.Op, Args: args}, nil); err != api.OK {
		return api.Value{}, err
	}
	for i, arg := range e.Args {
		v, err := g.part(arg, deep+1)
		if err != api.OK {
			return api.Value{}, err
		}
		args[i] = api.Expr{Value: v}
	}
	return eval.Eval(api.Expr{Op: e.Op, Value: e.Value, Args: args}, nil)
}
