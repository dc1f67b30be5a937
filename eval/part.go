package eval

import (
	"switchback/api"
	"switchback/value"
)

// The ops of an api.Expr that are reckoned over a row.
const (
	opLiteral = iota
	opColumn
	opNeg
	opNot
	opAdd
	opSub
	opMul
	opDiv
	opEqual
	opUnlike
	opBelow
	opAtMost
	opAbove
	opAtLeast
	opAnd
	opOr
	opIsNull
	opIsNotNull
)

// A reckoner reckons the parts of an expression over a row.
type reckoner struct {
	row []api.Value
}

// part answers what e is, which is the deep-th of parts within each other.
// What is not reckoned is not asked whether it may be, either.
func (r reckoner) part(e api.Expr, deep int) (api.Value, api.Errno) {
	if err := checkPart(e, deep); err != api.OK {
		return api.Value{}, err
	}
	switch e.Op {
	case opLiteral:
		return e.Value, api.OK
	case opColumn:
		return r.column(e.Value.N)
	}
	a, err := r.part(e.Args[0], deep+1)
	if err != api.OK || tellsAll(e.Op, a) {
		return a, err
	}
	if len(e.Args) == 1 {
		return ofOne(e.Op, a)
	}
	b, err := r.part(e.Args[1], deep+1)
	if err != api.OK {
		return api.Value{}, err
	}
	return ofTwo(e.Op, a, b)
}

// checkPart tells whether e may be reckoned, but for its Args. As no part has
// more than two of them, the bound of depth makes every expression end, even
// one that is a part of itself.
func checkPart(e api.Expr, deep int) api.Errno {
	args, is := argsOf(e.Op)
	switch {
	case deep > api.MaxDepth:
		return api.ErrDeep
	case !is:
		return api.ErrArg
	case len(e.Args) != args:
		return api.ErrCount
	}
	return api.OK
}

// argsOf answers how many Args an op has, and whether it is one for which a
// row is enough.
func argsOf(op int) (int, bool) {
	if op < opLiteral || op > opIsNotNull {
		return 0, false
	}
	switch op {
	case opLiteral, opColumn:
		return 0, true
	case opNeg, opNot, opIsNull, opIsNotNull:
		return 1, true
	}
	return 2, true
}

func (r reckoner) column(place int) (api.Value, api.Errno) {
	if place < 0 || place >= len(r.row) {
		return api.Value{}, api.ErrColumn
	}
	return r.row[place], api.OK
}

// tellsAll tells whether the first Arg is enough, whatever the second one is.
func tellsAll(op int, first api.Value) bool {
	return op == opAnd && first == truth(false) || op == opOr && first == truth(true)
}

func ofOne(op int, a api.Value) (api.Value, api.Errno) {
	switch op {
	case opNeg:
		return value.Neg(a)
	case opNot:
		return value.Not(a)
	case opIsNull:
		return truth(a.Kind == kindNull), api.OK
	}
	return truth(a.Kind != kindNull), api.OK
}

func ofTwo(op int, a api.Value, b api.Value) (api.Value, api.Errno) {
	switch op {
	case opAnd:
		return value.And(a, b)
	case opOr:
		return value.Or(a, b)
	}
	return value.Reckon(op, a, b)
}
