package lex_test

import (
	"fmt"
	"math"
	"math/big"
	"slices"
	"strings"
	"testing"
	"unsafe"

	"switchback/api"
	"switchback/lex"
)

const signs = "( ) , . * + - / = < > <= >= <> ;"

func word(s string, at int) lex.Token { return lex.Token{Kind: 1, Text: s, At: at} }

func number(n int, at int) lex.Token { return lex.Token{Kind: 2, N: n, At: at} }

func quoted(s string, at int) lex.Token { return lex.Token{Kind: 3, Text: s, At: at} }

func sign(s string, at int) lex.Token { return lex.Token{Kind: 4, Text: s, At: at} }

func list(l ...lex.Token) []lex.Token { return l }

func taken(t *testing.T, s string, want ...lex.Token) {
	t.Helper()
	if l, n, e := lex.Lex(s); !slices.Equal(l, want) || n != len(s) || e != api.OK {
		t.Errorf("Lex(%.80q) = %v, %d, %d, not %v", s, l, n, e, want)
	}
}

func refused(t *testing.T, s string, place int, want api.Errno) {
	t.Helper()
	if l, n, e := lex.Lex(s); len(l) != 0 || n != place || e != want {
		t.Errorf("Lex(%.80q) = %d tokens, %d, %d, not %d, %d", s, len(l), n, e, place, want)
	}
}

func TestP31OneByOne(t *testing.T) {
	for s, want := range map[string][]lex.Token{
		"":                   nil,
		"a":                  list(word("a", 0)),
		"Z":                  list(word("z", 0)),
		"_":                  list(word("_", 0)),
		"SELECT a1, _B":      list(word("select", 0), word("a1", 7), sign(",", 9), word("_b", 11)),
		"count(*)":           list(word("count", 0), sign("(", 5), sign("*", 6), sign(")", 7)),
		"t.c":                list(word("t", 0), sign(".", 1), word("c", 2)),
		"0":                  list(number(0, 0)),
		"007":                list(number(7, 0)),
		"12a":                list(number(12, 0), word("a", 2)),
		"a12":                list(word("a12", 0)),
		"1_":                 list(number(1, 0), word("_", 1)),
		"1_000":              list(number(1, 0), word("_000", 1)),
		"0x1F":               list(number(0, 0), word("x1f", 1)),
		"1e5":                list(number(1, 0), word("e5", 1)),
		"1.5":                list(number(1, 0), sign(".", 1), number(5, 2)),
		"-1":                 list(sign("-", 0), number(1, 1)),
		"+1":                 list(sign("+", 0), number(1, 1)),
		"''":                 list(quoted("", 0)),
		"' '":                list(quoted(" ", 0)),
		"'A b--c'":           list(quoted("A b--c", 0)),
		"'a\nb'":             list(quoted("a\nb", 0)),
		"'\x00\r\xff@'":      list(quoted("\x00\r\xff@", 0)),
		"'12'":               list(quoted("12", 0)),
		"''''":               list(quoted("'", 0)),
		"''''''":             list(quoted("''", 0)),
		"'a''b'":             list(quoted("a'b", 0)),
		"'''a'":              list(quoted("'a", 0)),
		"'a'''":              list(quoted("a'", 0)),
		"'a' 'b'":            list(quoted("a", 0), quoted("b", 4)),
		"'a'--\n'b'":         list(quoted("a", 0), quoted("b", 6)),
		"'a'b'c'":            list(quoted("a", 0), word("b", 3), quoted("c", 4)),
		"a'b'1'c'":           list(word("a", 0), quoted("b", 1), number(1, 4), quoted("c", 5)),
		"a<='it''s' -- x\n;": list(word("a", 0), sign("<=", 1), quoted("it's", 3), sign(";", 16)),
		"''=''":              list(quoted("", 0), sign("=", 2), quoted("", 3)),
	} {
		taken(t, s, want...)
	}
}

func TestP31EachFirstOctet(t *testing.T) {
	for c := range 256 {
		s := string([]byte{byte(c)})
		switch {
		case c >= 'a' && c <= 'z' || c == '_':
			taken(t, s, word(s, 0))
		case c >= 'A' && c <= 'Z':
			taken(t, s, word(string([]byte{byte(c + 32)}), 0))
		case c >= '0' && c <= '9':
			taken(t, s, number(c-'0', 0))
		case strings.IndexByte("(),.*+-/=<>;", byte(c)) >= 0:
			taken(t, s, sign(s, 0))
		case c == ' ' || c == '\t' || c == '\n':
			taken(t, s)
		default:
			refused(t, s, 0, api.ErrLex)
			refused(t, "a"+s, 1, api.ErrLex)
			refused(t, "a"+s+"+b;", 1, api.ErrLex) // no token begins with it, whatever follows
		}
	}
}

func TestP31WordsOfEachOctet(t *testing.T) {
	within := "abcdefghijklmnopqrstuvwxyzABCDEFGHIJKLMNOPQRSTUVWXYZ_0123456789"
	for i := range len(within) {
		c := within[i : i+1]
		taken(t, "x"+c+"Y", word("x"+strings.ToLower(c)+"y", 0))
		taken(t, "_"+c, word("_"+strings.ToLower(c), 0))
	}
}

func TestP31Signs(t *testing.T) {
	for _, s := range strings.Fields(signs) {
		taken(t, s, sign(s, 0))
		taken(t, "a"+s+"b", word("a", 0), sign(s, 1), word("b", 1+len(s)))
		taken(t, "1"+s+"'b'", number(1, 0), sign(s, 1), quoted("b", 1+len(s)))
		taken(t, " "+s+"\n"+s+"\t", sign(s, 1), sign(s, 2+len(s)))
	}
}

func TestP31SignsSideBySide(t *testing.T) {
	for s, want := range map[string][]lex.Token{
		"<=":    list(sign("<=", 0)),
		">=":    list(sign(">=", 0)),
		"<>":    list(sign("<>", 0)),
		"=<":    list(sign("=", 0), sign("<", 1)),
		"=>":    list(sign("=", 0), sign(">", 1)),
		"><":    list(sign(">", 0), sign("<", 1)),
		"==":    list(sign("=", 0), sign("=", 1)),
		"<<":    list(sign("<", 0), sign("<", 1)),
		">>":    list(sign(">", 0), sign(">", 1)),
		"<<=":   list(sign("<", 0), sign("<=", 1)),
		"<=>":   list(sign("<=", 0), sign(">", 2)),
		"<=>=":  list(sign("<=", 0), sign(">=", 2)),
		"<>=":   list(sign("<>", 0), sign("=", 2)),
		"<>>=":  list(sign("<>", 0), sign(">=", 2)),
		"<<>>":  list(sign("<", 0), sign("<>", 1), sign(">", 3)),
		">==":   list(sign(">=", 0), sign("=", 2)),
		"< =":   list(sign("<", 0), sign("=", 2)),
		"< >":   list(sign("<", 0), sign(">", 2)),
		">\n=":  list(sign(">", 0), sign("=", 2)),
		"<-":    list(sign("<", 0), sign("-", 1)),
		"- -":   list(sign("-", 0), sign("-", 2)),
		"-+-":   list(sign("-", 0), sign("+", 1), sign("-", 2)),
		"(()),": list(sign("(", 0), sign("(", 1), sign(")", 2), sign(")", 3), sign(",", 4)),
		"..*/;": list(sign(".", 0), sign(".", 1), sign("*", 2), sign("/", 3), sign(";", 4)),
		";;":    list(sign(";", 0), sign(";", 1)),
	} {
		taken(t, s, want...)
	}
}

func TestP31BetweenTokens(t *testing.T) {
	for s, want := range map[string][]lex.Token{
		" ":                list(),
		" \t\n":            list(),
		"--":               list(),
		"---":              list(),
		"-- a":             list(),
		"--\n":             list(),
		"--\n--":           list(),
		" --\n --\n\n":     list(),
		"-- a\nb":          list(word("b", 5)),
		"--a\n--b\n c --d": list(word("c", 9)),
		"a--b":             list(word("a", 0)),
		"a--b\nc":          list(word("a", 0), word("c", 5)),
		"a---b\nc":         list(word("a", 0), word("c", 6)),
		"a -- b -- c\nd":   list(word("a", 0), word("d", 12)),
		"a - b":            list(word("a", 0), sign("-", 2), word("b", 4)),
		"a-\n-b":           list(word("a", 0), sign("-", 1), sign("-", 3), word("b", 4)),
		"a - --b\n-c":      list(word("a", 0), sign("-", 2), sign("-", 8), word("c", 9)),
		"1--1":             list(number(1, 0)),
		"<--\n=":           list(sign("<", 0), sign("=", 4)),
		"a--'\nb":          list(word("a", 0), word("b", 5)),
		"-- it's\n1":       list(number(1, 8)),
		"--@\r\x00\xff\n1": list(number(1, 7)),
		"'--'--'\n'--'":    list(quoted("--", 0), quoted("--", 8)),
		"'a\n--b'":         list(quoted("a\n--b", 0)),
		"a\tb\nc d":        list(word("a", 0), word("b", 2), word("c", 4), word("d", 6)),
		"\n\n\n a":         list(word("a", 4)),
	} {
		taken(t, s, want...)
	}
	for _, c := range []string{"\r", "\v", "\f", "\x00", "\x1f", "\x85", "\u00a0", "\u2003", "\ufeff"} {
		refused(t, "a"+c+"b", 1, api.ErrLex) // no blanks
		refused(t, "--\n"+c, 3, api.ErrLex)
		taken(t, "--"+c+"b") // nor does a remark end with them
	}
}

func TestP32Words(t *testing.T) {
	for _, c := range []string{"a", "Q", "_"} {
		for _, n := range []int{1, 2, 15, 16} {
			taken(t, strings.Repeat(c, n), word(strings.Repeat(strings.ToLower(c), n), 0))
			taken(t, c+strings.Repeat("9", n-1)+",", word(strings.ToLower(c)+strings.Repeat("9", n-1), 0), sign(",", n))
		}
		for _, n := range []int{17, 18, 32, 256, 272, 2000} {
			refused(t, strings.Repeat(c, n), 0, api.ErrLex)
			refused(t, "a  "+c+strings.Repeat("1", n-1)+" @", 3, api.ErrLex)
		}
	}
	taken(t, strings.Repeat("a", 16)+" "+strings.Repeat("b", 16), word(strings.Repeat("a", 16), 0), word(strings.Repeat("b", 16), 17))
	taken(t, strings.Repeat("1", 16)+strings.Repeat("a", 16), number(1111111111111111, 0), word(strings.Repeat("a", 16), 16))
}

func TestP32Numbers(t *testing.T) {
	zeros := strings.Repeat("0", 1000)
	for s, n := range map[string]int{
		"0":                           0,
		"9":                           9,
		"10":                          10,
		"4294967296":                  1 << 32,
		"1000000000000000000":         1000000000000000000,
		"9223372036854775799":         math.MaxInt64 - 8,
		"9223372036854775806":         math.MaxInt64 - 1,
		"9223372036854775807":         math.MaxInt64,
		"0009223372036854775807":      math.MaxInt64,
		zeros:                         0,
		zeros + "1":                   1,
		zeros + "9223372036854775807": math.MaxInt64,
	} {
		taken(t, s, number(n, 0))
		taken(t, " "+s+"a", number(n, 1), word("a", 1+len(s)))
	}
	for _, s := range []string{
		"9223372036854775808", "9223372036854775809", "9223372036854775810", "9223372036854775900",
		"09223372036854775808", zeros + "9223372036854775808", "10000000000000000000",
		"18446744073709551615", "18446744073709551616", "18446744073709551617", "27670116110564327424",
		"99999999999999999999", "340282366920938463463374607431768211456", strings.Repeat("9", 1000),
	} {
		refused(t, s, 0, api.ErrLex)
		refused(t, "-"+s, 1, api.ErrLex)
		refused(t, "a "+s+"a @", 2, api.ErrLex)
	}
}

func TestP32NumbersByBig(t *testing.T) {
	greatest := big.NewInt(math.MaxInt64)
	n := big.NewInt(1)
	for range 80 {
		for d := int64(-2); d <= 2; d++ {
			m := new(big.Int).Add(n, big.NewInt(d))
			switch {
			case m.Sign() < 0:
			case m.Cmp(greatest) <= 0:
				taken(t, m.String(), number(int(m.Int64()), 0))
			default:
				refused(t, m.String(), 0, api.ErrLex)
			}
		}
		n.Lsh(n, 1)
	}
}

func TestP32Strings(t *testing.T) {
	for _, c := range []string{"a", "A", " ", "\n", "-", "\x00", "\xff", "''"} {
		one := strings.ReplaceAll(c, "''", "'")
		for _, n := range []int{0, 1, 63, 64} {
			s := "'" + strings.Repeat(c, n) + "'"
			taken(t, s, quoted(strings.Repeat(one, n), 0))
			taken(t, "a"+s+"b", word("a", 0), quoted(strings.Repeat(one, n), 1), word("b", 1+len(s)))
			refused(t, "="+s[:len(s)-1], 1, api.ErrLex) // it does not end
			refused(t, "a,"+s+"'", 2, api.ErrLex)       // nor does this one: its last ' is written twice
		}
		for _, n := range []int{65, 66, 128, 256, 320, 1000} {
			s := "'" + strings.Repeat(c, n) + "'"
			refused(t, s, 0, api.ErrLex)
			refused(t, "-- \n"+s+" @", 4, api.ErrLex)
			refused(t, s[:len(s)-1], 0, api.ErrLex)
		}
	}
	for _, n := range []int{62, 63} {
		taken(t, "'"+strings.Repeat("a", n)+"'''", quoted(strings.Repeat("a", n)+"'", 0))
		taken(t, "'''"+strings.Repeat("a", n)+"'", quoted("'"+strings.Repeat("a", n), 0))
	}
	refused(t, "'"+strings.Repeat("a", 64)+"'''", 0, api.ErrLex)
	refused(t, "'"+strings.Repeat("a", 63)+"'''''", 0, api.ErrLex)
}

func TestP32StringsThatDoNotEnd(t *testing.T) {
	for _, s := range []string{"'", "'a", "'''", "'a''", "'''''", "'\n", "'--", "'a\n;", "'''a''", "'a'';--'' b"} {
		refused(t, s, 0, api.ErrLex)
		refused(t, "a --'\n "+s, 7, api.ErrLex)
		refused(t, "''<"+s, 3, api.ErrLex)
	}
}

func TestP32WrongOctets(t *testing.T) {
	for _, c := range []string{"@", "!", "\"", "#", "$", "%", "&", ":", "?", "[", "\\", "]", "^", "`", "{", "|", "}", "~", "\r", "\x00", "\x7f", "\x80", "\xff", "\u00e9"} {
		refused(t, c, 0, api.ErrLex)
		refused(t, "a"+c, 1, api.ErrLex)
		refused(t, "a "+c+" b", 2, api.ErrLex)
		refused(t, "-- "+c+"\n'"+c+"'="+c, 5+len(c)+2+len(c), api.ErrLex)
	}
	refused(t, "a != b", 2, api.ErrLex)
	refused(t, "a :b", 2, api.ErrLex)
}

// Of several faults the first in the text is told.
func TestP32TheFirstFaultIsTold(t *testing.T) {
	faults := []string{"@", strings.Repeat("a", 17), "9223372036854775808", "'" + strings.Repeat("a", 65) + "'"}
	for _, a := range faults {
		for _, b := range append(faults, "'") {
			refused(t, "x "+a+" "+b, 2, api.ErrLex)
			refused(t, "-- "+b+"\n"+a+" "+b, 4+len(b), api.ErrLex)
		}
	}
}

func TestP32Count(t *testing.T) {
	for _, one := range []string{"a ", "1 ", "''--\n", "<=", "<> ", ";", "\n("} {
		for _, n := range []int{399, 400} {
			if l, place, e := lex.Lex(strings.Repeat(one, n)); len(l) != n || place != n*len(one) || e != api.OK {
				t.Errorf("Lex of %d of %q: %d tokens, %d, %d", n, one, len(l), place, e)
			}
		}
	}
	full := strings.Repeat("a ", 400)
	for _, behind := range []string{"", " ", "\n\t", "--", "-- a b c", "-- a\n \n--"} { // no tokens
		if l, n, e := lex.Lex(full + behind); len(l) != 400 || n != 800+len(behind) || e != api.OK {
			t.Errorf("Lex of 400 and %q: %d tokens, %d, %d", behind, len(l), n, e)
		}
	}
	for _, last := range []string{"a", "0", "''", ";", "<=", "a a", "a @", "a '", "a 99999999999999999999", strings.Repeat("a ", 400)} {
		refused(t, full+last, 800, api.ErrCount)
		refused(t, full+"--b\n "+last, 805, api.ErrCount)
	}
	refused(t, strings.Repeat(";", 401), 400, api.ErrCount)
	refused(t, strings.Repeat(";", 2048), 400, api.ErrCount)
	refused(t, strings.Repeat("<=", 401), 800, api.ErrCount)
}

// ErrLex is named ahead of ErrCount; yet a token is told of ahead of the next.
func TestP32LexAheadOfCount(t *testing.T) {
	for _, fault := range []string{"@", "'", "'a''", strings.Repeat("a", 17), "9223372036854775808", "'" + strings.Repeat("a", 65) + "'"} {
		for _, n := range []int{0, 1, 399, 400} {
			refused(t, strings.Repeat("a ", n)+fault, 2*n, api.ErrLex)
			refused(t, strings.Repeat("a ", n)+fault+" b c", 2*n, api.ErrLex)
		}
		for _, n := range []int{401, 402, 500} {
			refused(t, strings.Repeat("a ", n)+fault, 800, api.ErrCount)
		}
	}
}

func TestP32Long(t *testing.T) {
	for _, n := range []int{0, 1, 2047, 2048} {
		taken(t, strings.Repeat(" ", n))
		taken(t, strings.Repeat("\n", n))
		taken(t, strings.Repeat(" ", n/2)+strings.Repeat("\t", n-n/2))
	}
	taken(t, strings.Repeat("-", 2048))
	taken(t, strings.Repeat("0", 2048), number(0, 0))
	taken(t, strings.Repeat(" ", 2047)+"A", word("a", 2047))
	taken(t, strings.Repeat(" ", 2046)+"<>", sign("<>", 2046))
	refused(t, strings.Repeat(" ", 2047)+"@", 2047, api.ErrLex)
	refused(t, strings.Repeat(" ", 2047)+"'", 2047, api.ErrLex)
	for _, n := range []int{2049, 2050, 4096, 1 << 16, 1<<16 + 2048, 1 << 24} {
		for _, c := range []string{" ", "a", "@", "'", ";", "0", "-", "\x00"} { // whatever they are
			refused(t, strings.Repeat(c, n), 0, api.ErrLong)
		}
		refused(t, "a"+strings.Repeat("@", n-1), 0, api.ErrLong)
		refused(t, "select 1;"+strings.Repeat(" ", n-9), 0, api.ErrLong)
	}
}

func TestP32NoTextAtAll(t *testing.T) {
	if l, n, e := lex.Lex(""); len(l) != 0 || n != 0 || e != api.OK {
		t.Errorf("Lex of nothing = %v, %d, %d", l, n, e)
	}
}

// byWords: what the chapter says, word by word.
func byWords(s string) ([]lex.Token, int, api.Errno) {
	if len(s) > 2048 {
		return nil, 0, api.ErrLong
	}
	var l []lex.Token
	for i := 0; i < len(s); {
		rest := s[i:]
		if strings.Contains(" \t\n", rest[:1]) {
			i++
			continue
		}
		if strings.HasPrefix(rest, "--") {
			line, _, _ := strings.Cut(rest, "\n")
			i += len(line)
			continue
		}
		t, n := tokenByWords(rest)
		if n == 0 {
			return nil, i, api.ErrLex
		}
		if len(l) == 400 {
			return nil, i, api.ErrCount
		}
		t.At = i
		l = append(l, t)
		i += n
	}
	return l, len(s), api.OK
}

// tokenByWords answers the token that begins s, and how many octets it is written in: 0 if there is none.
func tokenByWords(s string) (lex.Token, int) {
	const letters = "abcdefghijklmnopqrstuvwxyz_ABCDEFGHIJKLMNOPQRSTUVWXYZ"
	const digits = "0123456789"
	length := func(of string) int {
		return len(s) - len(strings.TrimLeft(s, of))
	}
	switch {
	case strings.Contains(letters, s[:1]):
		n := length(letters + digits)
		if n > 16 {
			return lex.Token{}, 0
		}
		return word(strings.ToLower(s[:n]), 0), n
	case strings.Contains(digits, s[:1]):
		n := length(digits)
		z, _ := new(big.Int).SetString(s[:n], 10)
		if !z.IsInt64() {
			return lex.Token{}, 0
		}
		return number(int(z.Int64()), 0), n
	case s[0] == '\'':
		return quotedByWords(s)
	}
	for _, n := range []int{2, 1} {
		if n <= len(s) && slices.Contains(strings.Fields(signs), s[:n]) {
			return sign(s[:n], 0), n
		}
	}
	return lex.Token{}, 0
}

// quotedByWords: of ' side by side each two are one; an odd one ends the string.
func quotedByWords(s string) (lex.Token, int) {
	text := ""
	for i := 1; i < len(s); {
		if s[i] != '\'' {
			text += s[i : i+1]
			i++
			continue
		}
		n := len(s[i:]) - len(strings.TrimLeft(s[i:], "'"))
		text += strings.Repeat("'", n/2)
		i += n
		if n%2 == 1 && len(text) <= 64 {
			return quoted(text, 0), i
		}
		if n%2 == 1 {
			break
		}
	}
	return lex.Token{}, 0
}

func hold(t *testing.T, s string) {
	t.Helper()
	l, n, e := lex.Lex(s)
	wantL, wantN, wantE := byWords(s)
	if !slices.Equal(l, wantL) || n != wantN || e != wantE {
		t.Fatalf("Lex(%q) = %v, %d, %d, not %v, %d, %d", s, l, n, e, wantL, wantN, wantE)
	}
}

func TestP31AllShortTexts(t *testing.T) {
	const some = "aZ_0'()<>=-. \n\r@\xff"
	var each func(s string, more int)
	each = func(s string, more int) {
		hold(t, s)
		if more == 0 {
			return
		}
		for i := range len(some) {
			each(s+some[i:i+1], more-1)
		}
	}
	each("", 4)
}

// rolled answers numbers below a bound, the same each time.
func rolled(seed uint64) func(n int) int {
	return func(n int) int {
		seed = seed*6364136223846793005 + 1442695040888963407
		return int(seed >> 33 % uint64(n))
	}
}

func TestP32TextsOfPieces(t *testing.T) {
	pieces := []string{" ", "\n", "\t", "--", "--x\n", "-", "<", ">", "=", "(", ")", ";", ",", ".", "*", "/", "+", "a", "A1", "_", "select", "7", "00", "9223372036854775807", "9223372036854775808", "'", "''", "'a'", "'b''c'", strings.Repeat("a", 16), "'" + strings.Repeat("a", 64) + "'", "@", "\xff"}
	next := rolled(1)
	for range 100000 {
		var s strings.Builder
		for range next(12) {
			s.WriteString(pieces[next(len(pieces))])
		}
		hold(t, s.String())
	}
	for range 2000 {
		var s strings.Builder
		for range next(700) {
			s.WriteString(pieces[next(len(pieces)-8)])
		}
		hold(t, s.String())
	}
}

// written: tokens as they are written, each with its place, with these between.
func written(l []lex.Token, between ...string) (string, []lex.Token) {
	var s strings.Builder
	placed := slices.Clone(l)
	for i, t := range l {
		s.WriteString(between[i%len(between)])
		placed[i].At = s.Len()
		switch t.Kind {
		case 2:
			fmt.Fprint(&s, t.N)
		case 3:
			s.WriteString("'" + strings.ReplaceAll(t.Text, "'", "''") + "'")
		default:
			s.WriteString(t.Text)
		}
	}
	return s.String(), placed
}

func someTokens() []lex.Token {
	l := list(word("a", 0), word("_9", 0), word(strings.Repeat("z", 16), 0), number(0, 0), number(12, 0), number(math.MaxInt64, 0),
		quoted("", 0), quoted("'", 0), quoted("it's", 0), quoted("--", 0), quoted("\n", 0), quoted("A\x00\xff", 0), quoted(strings.Repeat("'", 64), 0))
	for _, s := range append(keywords(), "selects", "x1") {
		l = append(l, word(s, 0))
	}
	for _, s := range strings.Fields(signs) {
		l = append(l, sign(s, 0))
	}
	return l
}

func TestP33TokensWithBlanksBetweenAreTold(t *testing.T) {
	for _, between := range [][]string{{" "}, {"\n"}, {"\t"}, {" ", "\n\n", "\t "}, {" -- remark\n"}, {"--\n", " "}} {
		for _, a := range someTokens() {
			for _, b := range someTokens() {
				s, l := written(list(a, b), between...)
				taken(t, s, l...)
			}
		}
	}
	next := rolled(2)
	some := someTokens()
	for range 20000 {
		l := make([]lex.Token, next(20))
		for i := range l {
			l[i] = some[next(len(some))]
		}
		s, want := written(l, " ", "\n")
		taken(t, s, want...)
	}
}

// What is told, and written anew, is told once more.
func TestP33WhatIsToldIsToldAgain(t *testing.T) {
	next := rolled(3)
	octets := "aA_z019 '''()<>=,.;*+/-\n\t"
	for range 50000 {
		b := make([]byte, next(24))
		for i := range b {
			b[i] = octets[next(len(octets))]
		}
		l, _, e := lex.Lex(string(b))
		if e != api.OK {
			continue
		}
		s, want := written(l, " ")
		taken(t, s, want...)
	}
}

// within tells whether a text's octets lie in memory where another's do.
func within(part, whole string) bool {
	if part == "" || whole == "" {
		return false
	}
	a, b := uintptr(unsafe.Pointer(unsafe.StringData(part))), uintptr(unsafe.Pointer(unsafe.StringData(whole)))
	return a < b+uintptr(len(whole)) && b < a+uintptr(len(part))
}

func TestP34MemoryOfLex(t *testing.T) {
	for _, kept := range []string{"", "a", ";", "a b", "<= < <>", "select a from t where b <= 'it''s' -- x\n and c > 12;", "''''", "'abc'", "ABC abc", "<=<>>=;"} {
		s := strings.Clone(kept)
		first, n, e := lex.Lex(s)
		second, m, f := lex.Lex(s)
		if s != kept || e != api.OK || f != api.OK || n != len(s) || m != n || !slices.Equal(first, second) {
			t.Fatalf("Lex(%q): %v, %d, %d, once more %v, %d, %d", kept, first, n, e, second, m, f)
		}
		for i := range first {
			if within(first[i].Text, s) {
				t.Errorf("Lex(%q): the text %q is a piece of it", kept, first[i].Text)
			}
			for j := range second {
				if within(first[i].Text, second[j].Text) || i != j && within(first[i].Text, first[j].Text) {
					t.Errorf("Lex(%q): the texts %q, %q are shared", kept, first[i].Text, second[j].Text)
				}
			}
		}
		told := slices.Clone(second)
		for i := range first {
			first[i] = lex.Token{Kind: 9, Text: "changed", N: 9, At: 9}
		}
		_ = append(first, lex.Token{Kind: 9})
		if third, _, _ := lex.Lex(s); !slices.Equal(second, told) || !slices.Equal(third, told) {
			t.Errorf("Lex(%q) = %v, then %v, after another answer was changed", kept, second, third)
		}
	}
}

func TestP34NothingIsKeptFromCallToCall(t *testing.T) {
	want, _, _ := lex.Lex("a <= 1")
	for _, s := range []string{"", "@", "'", "a 'b", strings.Repeat(";", 401), strings.Repeat(" ", 2049), "x y z"} {
		lex.Lex(s)
		if l, n, e := lex.Lex("a <= 1"); !slices.Equal(l, want) || n != 6 || e != api.OK {
			t.Errorf("after %.20q Lex = %v, %d, %d", s, l, n, e)
		}
	}
}
