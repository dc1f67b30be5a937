package lex

import "strings"

// Keyword tells whether s, in letters of any case, is one of the words that
// statements are made of, and so no name.
func Keyword(s string) bool {
	switch Lower(s) {
	case "create", "table", "index", "on", "drop",
		"insert", "into", "values", "update", "set", "delete", "from", "where",
		"select", "join", "group", "by", "order", "desc", "limit",
		"begin", "commit", "rollback",
		"primary", "key", "not", "null", "is", "and", "or", "true", "false",
		"int", "bool", "text",
		"count", "sum", "min", "max":
		return true
	}
	return false
}

// Lower answers s with A to Z as a to z, and all other octets as they are.
func Lower(s string) string {
	// A builder's text is its own even if nothing in s changes.
	var text strings.Builder
	text.Grow(len(s))
	for i := range len(s) {
		c := s[i]
		if c >= 'A' && c <= 'Z' {
			c += 'a' - 'A'
		}
		text.WriteByte(c)
	}
	return text.String()
}
