package check

import "switchback/api"

// The kinds of expressions, which are those of an api.Value. NULL's fits each
// of the others.
const (
	kindNull = iota
	kindNumber
	kindTruth
	kindText
)

// The Ops of an api.Expr.
const (
	opLiteral = iota
	opColumn
	opNeg
	opNot
	opAdd
	opSub
	opMul
	opDiv
	opEqual
	opUnlike
	opBelow
	opAtMost
	opAbove
	opAtLeast
	opAnd
	opOr
	opIsNull
	opIsNotNull
	opCountAll
	opCount
	opSum
	opMin
	opMax
)

func isAggregate(op int) bool {
	return op >= opCountAll && op <= opMax
}

// kindOf answers the kind that an op which is neither a literal nor a column
// makes of its Args' kinds.
func kindOf(op int, args ...int) int {
	switch op {
	case opNot, opAnd, opOr:
		fit(kindTruth, args...)
		return kindTruth
	case opEqual, opUnlike, opBelow, opAtMost, opAbove, opAtLeast:
		fit(args[0], args[1])
		return kindTruth
	case opIsNull, opIsNotNull:
		return kindTruth
	case opCountAll, opCount:
		return kindNumber
	case opMin, opMax:
		return args[0]
	}
	fit(kindNumber, args...)
	return kindNumber
}

// fit refuses kinds that do not fit the first one.
func fit(first int, others ...int) {
	for _, kind := range others {
		if first != kindNull && kind != kindNull && first != kind {
			panic(api.ErrType)
		}
	}
}
