package parse

import (
	"switchback/api"
	"switchback/lex"
)

// The Kinds of a lex.Token; and of one more, behind the last, which begins
// where the text ends.
const (
	kindEnd = iota
	kindWord
	kindNumber
	kindString
	kindSign
)

// A fault is an error, and the octet at which what is at fault begins.
type fault struct {
	err api.Errno
	at  int
}

// A parser goes through a text's tokens, the end's among them. At the first
// that is at fault it panics with a fault, which parsed recovers.
type parser struct {
	tokens []lex.Token
	deep   int
}

func (p *parser) next() lex.Token {
	return p.tokens[0]
}

// pass goes behind the next token, which is not the end's.
func (p *parser) pass() {
	p.tokens = p.tokens[1:]
}

// fault answers an error of the next token.
func (p *parser) fault(err api.Errno) fault {
	return fault{err, p.next().At}
}

// is tells whether the next token is this keyword, or this sign.
func (p *parser) is(word string) bool {
	t := p.next()
	return (t.Kind == kindWord || t.Kind == kindSign) && t.Text == word
}

// take takes these words, if the first of them is next: then the others have
// to follow it.
func (p *parser) take(first string, others ...string) bool {
	if !p.is(first) {
		return false
	}
	p.pass()
	p.need(others...)
	return true
}

// need takes these words, which have to come next.
func (p *parser) need(words ...string) {
	for _, word := range words {
		if !p.take(word) {
			panic(p.fault(api.ErrSyntax))
		}
	}
}

func (p *parser) name() string {
	t := p.next()
	if t.Kind != kindWord || lex.Keyword(t.Text) {
		panic(p.fault(api.ErrSyntax))
	}
	p.pass()
	return t.Text
}

func (p *parser) number() int {
	t := p.next()
	if t.Kind != kindNumber {
		panic(p.fault(api.ErrSyntax))
	}
	p.pass()
	return t.N
}

// list reads one thing or more, with a comma between each two.
func list[T any](p *parser, read func() T) []T {
	l := []T{read()}
	for p.take(",") {
		l = append(l, read())
	}
	return l
}
