package parse_test

import (
	"strings"
	"testing"

	"switchback/api"
	"switchback/lex"
	"switchback/parse"
	"switchback/syntax"
)

// rolledStmt is a statement that may be, but perhaps for how many parts its expressions have.
func rolledStmt(next func(n int) int) api.Stmt {
	name := func() string {
		return []string{"a", "b", "t", "u", "_", "x_1", "keys", strings.Repeat("n", 16)}[next(8)]
	}
	exprs := func(n int) []api.Expr {
		var l []api.Expr
		for range n {
			l = append(l, rolledExpr(next, 1+next(5)))
		}
		return l
	}
	many := func(most int) int { return 1 + next(most)*next(3)/2 }
	x := api.Stmt{Kind: 1 + next(10)}
	if x.Kind <= 7 {
		x.Table = name()
	}
	switch x.Kind {
	case 1:
		for range many(8) {
			x.Columns = append(x.Columns, api.Column{Name: name(), Kind: 1 + next(3), NotNull: next(2) == 0})
		}
		x.Key = name()
	case 2:
		x.Index, x.Key = name(), name()
	case 4:
		for range many(16) {
			x.Rows = append(x.Rows, exprs(many(8)))
		}
	case 5:
		for range many(8) {
			x.Sets = append(x.Sets, api.Set{Name: name(), Expr: rolledExpr(next, 1+next(5))})
		}
		x.Where = exprs(next(2))
	case 6:
		x.Where = exprs(next(2))
	case 7:
		x.Items = exprs(many(16))
		if next(2) == 0 {
			x.Join, x.On = name(), exprs(1)
		}
		x.Where = exprs(next(2))
		for range next(2) {
			x.Group = append(x.Group, colOf([]string{"", name()}[next(2)], name()))
		}
		for range next(9) {
			x.Order = append(x.Order, api.Order{N: 1 + next(16), Desc: next(2) == 0})
		}
		x.Limit = []int{-1, 0, 1, next(1000), 1 << 31}[next(5)]
	}
	return x
}

func TestP52ParseOfPrint(t *testing.T) {
	next, parsed, more := rolled(5), [11]int{}, 0
	for range 30000 {
		x := rolledStmt(next)
		print, e := syntax.Print(x)
		if e != api.OK {
			continue
		}
		tokens, at, e := lex.Lex(print)
		if e != api.OK { // told as lex tells it
			refuses(t, print, at, e)
			more++
			continue
		}
		parses(t, print, x)
		parsed[x.Kind]++
		if s := spelled(next, wordsOf(print)); len(s) <= api.MaxSource {
			parses(t, s, x)
		}
		if len(print) < api.MaxSource && len(tokens) < api.MaxTokens {
			parses(t, print+";", x)
		}
	}
	for kind := 1; kind <= 10; kind++ {
		if parsed[kind] < 500 {
			t.Errorf("only %d statements of Kind %d", parsed[kind], kind)
		}
	}
	if more < 100 {
		t.Errorf("only %d of more than 400 tokens", more)
	}
}

func TestP52ParseOfPrintOfExpressions(t *testing.T) {
	next := rolled(6)
	for range 30000 {
		e := rolledExpr(next, 1+next(12))
		print, f := syntax.PrintExpr(e)
		if f != api.OK {
			continue
		}
		parsesExpr(t, print, e)
		parsesExpr(t, "("+strings.ToLower(print)+")", e)
	}
	// The deepest that there may be are not too deep, in as many parentheses as they are printed with.
	for n := neg; n <= maxOf; n++ {
		e := op(countAll)
		for range 11 {
			switch argsOf(n) {
			case 1:
				e = op(n, e)
			case 2:
				e = op(n, e, col("a"))
			}
		}
		print, _ := syntax.PrintExpr(e)
		parsesExpr(t, print, e)
	}
}

func TestP52AtTheLimits(t *testing.T) {
	row := []api.Expr{num(1), num(1)}
	// INSERT INTO t VALUES, then of each row ( 1 , 1 ) and what is between rows: 6 tokens a row.
	x := api.Stmt{Kind: 4, Table: "t"}
	for range 16 {
		x.Rows = append(x.Rows, row)
	}
	eights := strings.Repeat("1, ", 8)
	full := "insert into t values " + strings.Repeat("("+eights[:len(eights)-2]+"), ", 15) + "(1, 1, 1, 1, 1, 1, 1, 1)"
	// 4 tokens, and 18 a row, less the last comma: 291. A - of each of the numbers makes more of them.
	for n := 0; n <= 128; n++ {
		s := strings.Replace(full, "1", "- 1", n)
		if tokens := 291 + n; tokens > api.MaxTokens {
			_, at, _ := lex.Lex(s)
			refuses(t, s, at, api.ErrCount)
		} else if y, at, e := parse.Parse(s); len(y.Rows) != 16 || at != len(s) || e != api.OK {
			t.Errorf("%d tokens: %d, %d", tokens, at, e)
		}
	}
	print, _ := syntax.Print(x)
	for n := len(print); n <= 2050; n++ {
		s := print + strings.Repeat(" ", n-len(print))
		if n > api.MaxSource {
			refuses(t, s, 0, api.ErrLong)
		} else {
			parses(t, s, x)
		}
	}
}

// A statement that may be has a print that is too long to be parsed, if it is full of texts.
func TestP52LongPrints(t *testing.T) {
	for n := 20; n <= 40; n++ {
		x := api.Stmt{Kind: 4, Table: "t"}
		for range n / 4 {
			x.Rows = append(x.Rows, list(text(strings.Repeat("x", 64)), text(strings.Repeat("'", 32)), null(), text(strings.Repeat("y", n))))
		}
		print, e := syntax.Print(x)
		if e != api.OK {
			t.Fatal(e)
		}
		if len(print) > api.MaxSource {
			refuses(t, print, 0, api.ErrLong)
		} else {
			parses(t, print, x)
		}
	}
}

// Whatever is parsed may be, and is parsed of its print; what is refused tells nothing but its place, which is within the text.
func TestP53WhateverIsParsed(t *testing.T) {
	next, parsed := rolled(7), 0
	pieces := append(classes(), " ", " ", "\n", "--", "'", "''", "9223372036854775807", "9223372036854775808", "@", "\x00", "\xff", "a.b", "(a)", "a = 1", "select a from t", "insert into t values (1)", "where a", "(*)", "order by 1", "t", "t")
	for range 200000 {
		var s strings.Builder
		for range next(8) {
			s.WriteString(pieces[next(len(pieces))] + []string{" ", "", " "}[next(3)])
		}
		x, at, e := parse.Parse(s.String())
		print, f := syntax.Print(x)
		switch {
		case e != api.OK && (!zeroStmt(x) || at < 0 || at > s.Len()):
			t.Fatalf("Parse(%q) = %#v, %d, %d", s.String(), x, at, e)
		case e == api.OK && (f != api.OK || at != s.Len()):
			t.Fatalf("Parse(%q) = %#v, %d, whose print's error is %d", s.String(), x, at, f)
		case e == api.OK:
			parsed++
			parses(t, print, x)
		}
		y, at, e := parse.Expr(s.String())
		print, f = syntax.PrintExpr(y)
		switch {
		case e != api.OK && (!zeroExpr(y) || at < 0 || at > s.Len()):
			t.Fatalf("Expr(%q) = %#v, %d, %d", s.String(), y, at, e)
		case e == api.OK && (f != api.OK || at != s.Len()):
			t.Fatalf("Expr(%q) = %#v, %d, whose print's error is %d", s.String(), y, at, f)
		case e == api.OK:
			parsed++
			parsesExpr(t, print, y)
		}
	}
	if parsed < 1000 {
		t.Errorf("only %d were parsed", parsed)
	}
}

// All texts of two octets.
func TestP53AllTextsOfTwoOctets(t *testing.T) {
	for i := range 1 << 16 {
		s := string([]byte{byte(i >> 8), byte(i)})
		if x, at, e := parse.Parse(s); !zeroStmt(x) || at < 0 || at > 2 || e != api.ErrSyntax && e != api.ErrLex {
			t.Fatalf("Parse(%q) = %#v, %d, %d", s, x, at, e)
		}
		y, at, e := parse.Expr(s)
		if print, f := syntax.PrintExpr(y); e == api.OK && (f != api.OK || at != 2) || e != api.OK && (!zeroExpr(y) || at < 0 || at > 2) {
			t.Fatalf("Expr(%q) = %#v, %d, %d: %q", s, y, at, e, print)
		}
	}
}
