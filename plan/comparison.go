package plan

import "switchback/api"

// The ops of an api.Expr that are asked for here.
const (
	opLiteral = 0
	opColumn  = 1
	opNeg     = 2
	opAdd     = 4
	opDiv     = 7
	opEqual   = 8
	opBelow   = 10
	opAtMost  = 11
	opAbove   = 12
	opAtLeast = 13
	opAnd     = 14
)

// A comparison is a condition about a column: the column stands ahead of op,
// and a literal behind it.
type comparison struct {
	op      int
	literal api.Value
}

// aboutColumn answers the comparison that e is of the column at that place,
// and whether it is one.
func aboutColumn(e api.Expr, place int) (comparison, bool) {
	if !isBound(e.Op) || len(e.Args) != 2 {
		return comparison{}, false
	}
	first, second := e.Args[0], e.Args[1]
	switch {
	case isColumn(first, place) && second.Op == opLiteral:
		return comparison{e.Op, second.Value}, true
	case first.Op == opLiteral && isColumn(second, place):
		return comparison{turned(e.Op), first.Value}, true
	}
	return comparison{}, false
}

func isColumn(e api.Expr, place int) bool {
	return e.Op == opColumn && e.Value.N == place
}

// isBound tells whether an op bounds what it compares: <> does not.
func isBound(op int) bool {
	return op == opEqual || op >= opBelow && op <= opAtLeast
}

// isReckoned tells whether an op makes a number of numbers.
func isReckoned(op int) bool {
	return op == opNeg || op >= opAdd && op <= opDiv
}

// turned answers the op that tells of b and a what op tells of a and b.
func turned(op int) int {
	switch op {
	case opBelow:
		return opAbove
	case opAtMost:
		return opAtLeast
	case opAbove:
		return opBelow
	case opAtLeast:
		return opAtMost
	}
	return op
}

// fits tells whether the literal may be held against values of that kind.
func (c comparison) fits(kind int) bool {
	return c.literal.Kind == kind || c.literal.Kind == kindNull
}

// plan answers which values the comparison may be true of.
func (c comparison) plan() Plan {
	p := open(theKey)
	if c.literal.Kind == kindNull {
		return Plan{Empty: true}
	}
	in, apart := Bound{Value: c.literal, In: true}, Bound{Value: c.literal}
	switch c.op {
	case opEqual:
		p.Low, p.High = in, in
	case opBelow:
		p.High = apart
	case opAtMost:
		p.High = in
	case opAbove:
		p.Low = apart
	case opAtLeast:
		p.Low = in
	}
	return p
}
