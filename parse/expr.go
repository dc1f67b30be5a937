package parse

import "switchback/api"

// The Kinds of an api.Value; but for NULL's, they are those of an api.Column,
// too.
const (
	valueNull = iota
	valueNumber
	valueTruth
	valueText
)

// The Ops of an api.Expr.
const (
	opLiteral = iota
	opColumn
	opNeg
	opNot
	opAdd
	opSub
	opMul
	opDiv
	opEqual
	opUnlike
	opBelow
	opAtMost
	opAbove
	opAtLeast
	opAnd
	opOr
	opIsNull
	opIsNotNull
	opCountAll
	opCount
	opSum
	opMin
	opMax
)

// maxDeep are the most expressions within each other, each of which a token
// ahead of it asks for.
const maxDeep = 32

// wordOf answers the word or the sign by which an op with Args is known, if it
// is known by one alone.
func wordOf(op int) string {
	words := [...]string{
		opNeg: "-", opNot: "not",
		opAdd: "+", opSub: "-", opMul: "*", opDiv: "/",
		opEqual: "=", opUnlike: "<>", opBelow: "<", opAtMost: "<=", opAbove: ">", opAtLeast: ">=",
		opAnd: "and", opOr: "or",
		opCount: "count", opSum: "sum", opMin: "min", opMax: "max",
	}
	return words[op]
}

// among answers the one of the ops whose word is next, and whether one is.
func (p *parser) among(ops ...int) (int, bool) {
	for _, op := range ops {
		if p.is(wordOf(op)) {
			return op, true
		}
	}
	return 0, false
}

// deeper takes the token that asks for an expression one deeper, and reads
// what stands behind it.
func (p *parser) deeper(read func() api.Expr) api.Expr {
	if p.deep == maxDeep {
		panic(p.fault(api.ErrDeep))
	}
	p.pass()
	p.deep++
	e := read()
	p.deep--
	return e
}

// expr reads an expression: of the least strength, as each of the others reads
// its parts by the next stronger one.
func (p *parser) expr() api.Expr {
	return p.joined((*parser).conjunction, opOr)
}

func (p *parser) conjunction() api.Expr {
	return p.joined((*parser).negation, opAnd)
}

func (p *parser) negation() api.Expr {
	return p.led(p.negation, p.comparison, opNot)
}

func (p *parser) comparison() api.Expr {
	e := p.sum()
	if op, is := p.among(opEqual, opUnlike, opBelow, opAtMost, opAbove, opAtLeast); is {
		p.pass()
		return made(op, e, p.sum())
	}
	if !p.take("is") {
		return e
	}
	op := opIsNull
	if p.take("not") {
		op = opIsNotNull
	}
	p.need("null")
	return made(op, e)
}

func (p *parser) sum() api.Expr {
	return p.joined((*parser).product, opAdd, opSub)
}

func (p *parser) product() api.Expr {
	return p.joined((*parser).signed, opMul, opDiv)
}

func (p *parser) signed() api.Expr {
	return p.led(p.signed, p.primary, opNeg)
}

// joined reads parts with ops of one strength between, from the left on.
func (p *parser) joined(part func(p *parser) api.Expr, ops ...int) api.Expr {
	e := part(p)
	for {
		op, is := p.among(ops...)
		if !is {
			return e
		}
		p.pass()
		e = made(op, e, part(p))
	}
}

// led reads what stands behind the op's word, if that is next, else what is
// stronger.
func (p *parser) led(behind func() api.Expr, stronger func() api.Expr, op int) api.Expr {
	if !p.is(wordOf(op)) {
		return stronger()
	}
	return made(op, p.deeper(behind))
}

func (p *parser) primary() api.Expr {
	if op, is := p.among(opCount, opSum, opMin, opMax); is {
		return p.aggregate(op)
	}
	switch t := p.next(); {
	case t.Kind == kindNumber:
		return literal(valueNumber, p.number(), "")
	case t.Kind == kindString:
		p.pass()
		return literal(valueText, 0, t.Text)
	case p.is("("):
		return p.deeper(p.enclosed)
	case p.take("null"):
		return literal(valueNull, 0, "")
	case p.take("false"):
		return literal(valueTruth, 0, "")
	case p.take("true"):
		return literal(valueTruth, 1, "")
	}
	return p.reference()
}

// enclosed reads an expression, and the ) that ends it.
func (p *parser) enclosed() api.Expr {
	e := p.expr()
	p.need(")")
	return e
}

func (p *parser) aggregate(op int) api.Expr {
	// The word asks to go deeper, whatever stands behind it.
	return p.deeper(func() api.Expr {
		p.need("(")
		if op == opCount && p.take("*") {
			p.need(")")
			return made(opCountAll)
		}
		return made(op, p.enclosed())
	})
}

// reference reads a column as an expression has it.
func (p *parser) reference() api.Expr {
	name := p.name()
	if p.take(".") {
		return api.Expr{Op: opColumn, Table: name, Name: p.name()}
	}
	return api.Expr{Op: opColumn, Name: name}
}

// group reads an expression that is a column.
func (p *parser) group() api.Expr {
	if !p.is("(") {
		return p.reference()
	}
	return p.deeper(func() api.Expr {
		e := p.group()
		p.need(")")
		return e
	})
}

func literal(kind int, n int, text string) api.Expr {
	return api.Expr{Op: opLiteral, Value: api.Value{Kind: kind, N: n, Text: text}}
}

func made(op int, args ...api.Expr) api.Expr {
	return api.Expr{Op: op, Args: args}
}
