package lex

import (
	"strconv"
	"strings"

	"switchback/api"
)

// signOctets are those of signs; each is one by itself, too.
const signOctets = "(),.*+-/=<>;"

// A reader goes through a text's octets.
type reader struct {
	text string
	at   int
}

// taker answers a call that takes the next octet, if there is one and it fits,
// and tells whether it has.
func (r *reader) taker(fits func(c byte) bool) func() bool {
	return func() bool {
		if r.at == len(r.text) || !fits(r.text[r.at]) {
			return false
		}
		r.at++
		return true
	}
}

// run takes all octets up to the first that does not fit, and answers them: a
// piece of the text, so it is not to be handed out as it is.
func (r *reader) run(fits func(c byte) bool) string {
	from, take := r.at, r.taker(fits)
	for take() {
	}
	return r.text[from:r.at]
}

func (r *reader) begins(with string) bool {
	return strings.HasPrefix(r.text[r.at:], with)
}

// skip goes behind what stands between tokens.
func (r *reader) skip() {
blanks:
	r.run(isBlank)
	if r.begins("--") {
		r.run(isWithinLine)
		goto blanks
	}
}

// token takes the token that begins here, and tells whether it is one.
func (r *reader) token() (Token, bool) {
	t, is := Token{At: r.at}, false
	switch first := r.text[r.at]; {
	case isLetter(first):
		t.Kind = kindWord
		t.Text, is = r.word()
	case isDigit(first):
		t.Kind = kindNumber
		t.N, is = r.number()
	case isQuote(first):
		t.Kind = kindString
		t.Text, is = r.quoted()
	case isSign(first):
		t.Kind = kindSign
		t.Text, is = r.sign(), true
	}
	return t, is
}

func (r *reader) word() (string, bool) {
	word := r.run(isWithinWord)
	if len(word) > api.MaxName {
		return "", false
	}
	return Lower(word), true
}

func (r *reader) number() (int, bool) {
	// Digits are refused for one thing alone: a number beyond 64 bits.
	n, err := strconv.Atoi(r.run(isDigit))
	return n, err == nil
}

func (r *reader) quoted() (string, bool) {
	var text strings.Builder
	quote := r.taker(isQuote)
	quote()
	for {
		text.WriteString(r.run(isWithinQuotes))
		if !quote() {
			return "", false
		}
		// The second of two is one that the string has; else the first
		// has ended it.
		if !quote() {
			break
		}
		text.WriteByte('\'')
	}
	return text.String(), text.Len() <= api.MaxText
}

func (r *reader) sign() string {
	length := 1
	for _, two := range [...]string{"<=", ">=", "<>"} {
		if r.begins(two) {
			length = len(two)
		}
	}
	r.at += length
	return strings.Clone(r.text[r.at-length : r.at])
}

func isBlank(c byte) bool {
	return c == ' ' || c == '\t' || c == '\n'
}

func isWithinLine(c byte) bool {
	return c != '\n'
}

func isLetter(c byte) bool {
	return c >= 'a' && c <= 'z' || c >= 'A' && c <= 'Z' || c == '_'
}

func isDigit(c byte) bool {
	return c >= '0' && c <= '9'
}

func isWithinWord(c byte) bool {
	return isLetter(c) || isDigit(c)
}

func isQuote(c byte) bool {
	return c == '\''
}

func isWithinQuotes(c byte) bool {
	return !isQuote(c)
}

func isSign(c byte) bool {
	return strings.IndexByte(signOctets, c) >= 0
}
