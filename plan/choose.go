package plan

import (
	"iter"

	"switchback/api"
	"switchback/catalog"
	"switchback/value"
)

// Choose answers a part of an index in which all rows of t are of which the
// condition is true.
func Choose(t catalog.Table, where []api.Expr) (Plan, api.Errno) {
	if catalog.Check(catalog.State{Tables: []catalog.Table{t}}) != api.OK {
		return Plan{}, api.ErrState
	}
	if len(where) > 1 {
		return Plan{}, api.ErrCount
	}
	if len(where) == 0 {
		return open(allRows), api.OK
	}
	reckons, err := look(where[0])
	switch {
	case err != api.OK:
		return Plan{}, err
	case reckons:
		// A row that no plan reaches might be one that tells an error.
		return open(allRows), api.OK
	}
	return fresh(best(plans(t, where[0]))), api.OK
}

// look tells whether anything in e is reckoned, which may be an error.
func look(e api.Expr) (bool, api.Errno) {
	reckons := false
	for deep, part := range parts(e) {
		if deep > api.MaxDepth {
			return false, api.ErrDeep
		}
		reckons = reckons || isReckoned(part.Op)
	}
	return reckons, api.OK
}

// plans are those that a condition allows: one of the key, and one of each
// index of t.
func plans(t catalog.Table, where api.Expr) []Plan {
	l := []Plan{meeting(theKey, t, t.Key, where)}
	for i, x := range t.Indexes {
		l = append(l, meeting(i+1, t, x.Column, where))
	}
	return l
}

// meeting is what all conditions about a column leave of its index.
func meeting(index int, t catalog.Table, column int, where api.Expr) Plan {
	p := open(index)
	for e := range conditions(where) {
		c, is := aboutColumn(e, column)
		if is && c.fits(t.Columns[column].Kind) {
			p = meet(p, c.plan())
		}
	}
	return p
}

// best answers the first of the plans of which the most is true that is wished
// of one.
func best(l []Plan) Plan {
	wishes := [...]func(p Plan) bool{
		func(p Plan) bool { return p.Empty },
		func(p Plan) bool {
			return !p.Low.Open && !p.High.Open && value.Order(p.Low.Value, p.High.Value) == 0
		},
		func(p Plan) bool { return !p.Low.Open || !p.High.Open },
	}
	for _, holds := range wishes {
		for _, p := range l {
			if holds(p) {
				return p
			}
		}
	}
	return open(allRows)
}

// parts hands out e and all that stands within it, each with how deep it
// stands. Whoever asks it must end where it is too deep: an expression may be
// a part of itself.
func parts(e api.Expr) iter.Seq2[int, api.Expr] {
	return func(yield func(deep int, part api.Expr) bool) {
		handParts(e, 1, yield)
	}
}

func handParts(e api.Expr, deep int, yield func(deep int, part api.Expr) bool) bool {
	if !yield(deep, e) {
		return false
	}
	for _, arg := range e.Args {
		if !handParts(arg, deep+1, yield) {
			return false
		}
	}
	return true
}

// conditions hands out what must all be true if e is.
func conditions(e api.Expr) iter.Seq[api.Expr] {
	return func(yield func(e api.Expr) bool) {
		handConditions(e, yield)
	}
}

func handConditions(e api.Expr, yield func(e api.Expr) bool) bool {
	if e.Op != opAnd || len(e.Args) != 2 {
		return yield(e)
	}
	return handConditions(e.Args[0], yield) && handConditions(e.Args[1], yield)
}
