package value

import (
	"math"

	"switchback/api"
)

// The ops of an api.Expr that Reckon knows.
const (
	opAdd = iota + 4
	opSub
	opMul
	opDiv
	opEqual
	opUnlike
	opBelow
	opAtMost
	opAbove
	opAtLeast
)

// Reckon answers what op makes of a and b: the number of a sum, a difference,
// a product or a quotient, or the truth of a comparison.
func Reckon(op int, a api.Value, b api.Value) (api.Value, api.Errno) {
	switch {
	case op < opAdd || op > opAtLeast:
		return api.Value{}, api.ErrArg
	case op < opEqual:
		return reckonNumber(op, a, b)
	}
	return reckonTruth(op, a, b)
}

// Neg answers -a.
func Neg(a api.Value) (api.Value, api.Errno) {
	return reckonNumber(opSub, number(0), a)
}

func reckonNumber(op int, a api.Value, b api.Value) (api.Value, api.Errno) {
	if !fit(kindNumber, a, b) {
		return api.Value{}, api.ErrType
	}
	if anyNull(a, b) {
		return null(), api.OK
	}
	tell := amount(op, a.N, b.N)
	n, err := tell()
	if err != api.OK {
		return api.Value{}, err
	}
	return number(n), api.OK
}

func reckonTruth(op int, a api.Value, b api.Value) (api.Value, api.Errno) {
	order, known, err := Compare(a, b)
	if err != api.OK {
		return api.Value{}, err
	}
	if !known {
		return null(), api.OK
	}
	return truth(holds(op, order)), api.OK
}

// An amount is reckoned when it is asked for. Go's numbers wrap round, so it is
// held against what it came from.
func amount(op int, a int, b int) func() (int, api.Errno) {
	switch op {
	case opAdd:
		return func() (int, api.Errno) { return exact(a+b, (a+b > a) == (b > 0)) }
	case opSub:
		return func() (int, api.Errno) { return exact(a-b, (a-b < a) == (b > 0)) }
	case opMul:
		return func() (int, api.Errno) { return exact(a*b, b == 0 || divides(a, b) && a*b/b == a) }
	}
	return func() (int, api.Errno) {
		if b == 0 {
			return 0, api.ErrZero
		}
		if !divides(a, b) {
			return 0, api.ErrOver
		}
		return a / b, api.OK
	}
}

func exact(n int, is bool) (int, api.Errno) {
	if !is {
		return 0, api.ErrOver
	}
	return n, api.OK
}

// The one quotient beyond 64 bits is that of the least number and -1: it is
// their product, too, and Go wraps both round to the least number without a word.
func divides(a int, b int) bool {
	return a != math.MinInt64 || b != -1
}

func holds(op int, order int) bool {
	trueOf := [...][3]bool{ // each of below, alike, above
		opEqual - opEqual:   {false, true, false},
		opUnlike - opEqual:  {true, false, true},
		opBelow - opEqual:   {true, false, false},
		opAtMost - opEqual:  {true, true, false},
		opAbove - opEqual:   {false, false, true},
		opAtLeast - opEqual: {false, true, true},
	}
	return trueOf[op-opEqual][order+1]
}
