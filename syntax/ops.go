package syntax

// The Ops of an api.Expr.
const (
	opLiteral = iota
	opColumn
	opNeg
	opNot
	opAdd
	opSub
	opMul
	opDiv
	opEqual
	opUnlike
	opBelow
	opAtMost
	opAbove
	opAtLeast
	opAnd
	opOr
	opIsNull
	opIsNotNull
	opCountAll
	opCount
	opSum
	opMin
	opMax
)

// An opForm tells how many Args an op has, and what is printed ahead of them,
// between two of them and behind them.
type opForm struct {
	args    int
	ahead   string
	between string
	behind  string
}

// formOfOp answers the form of an op, and whether it is one. What literals and
// columns are printed as hangs on more than their op.
func formOfOp(op int) (opForm, bool) {
	forms := [...]opForm{
		opLiteral:   {},
		opColumn:    {},
		opNeg:       {1, "(-", "", ")"},
		opNot:       {1, "(NOT ", "", ")"},
		opAdd:       {2, "(", " + ", ")"},
		opSub:       {2, "(", " - ", ")"},
		opMul:       {2, "(", " * ", ")"},
		opDiv:       {2, "(", " / ", ")"},
		opEqual:     {2, "(", " = ", ")"},
		opUnlike:    {2, "(", " <> ", ")"},
		opBelow:     {2, "(", " < ", ")"},
		opAtMost:    {2, "(", " <= ", ")"},
		opAbove:     {2, "(", " > ", ")"},
		opAtLeast:   {2, "(", " >= ", ")"},
		opAnd:       {2, "(", " AND ", ")"},
		opOr:        {2, "(", " OR ", ")"},
		opIsNull:    {1, "(", "", " IS NULL)"},
		opIsNotNull: {1, "(", "", " IS NOT NULL)"},
		opCountAll:  {0, "COUNT(*", "", ")"},
		opCount:     {1, "COUNT(", "", ")"},
		opSum:       {1, "SUM(", "", ")"},
		opMin:       {1, "MIN(", "", ")"},
		opMax:       {1, "MAX(", "", ")"},
	}
	if op < 0 || op >= len(forms) {
		return opForm{}, false
	}
	return forms[op], true
}
