package lex_test

import (
	"strings"
	"testing"

	"switchback/lex"
)

func keywords() []string {
	return strings.Fields("create table index on drop insert into values update set delete from where select join group by order desc limit begin commit rollback primary key not null is and or true false int bool text count sum min max")
}

func TestP32Keyword(t *testing.T) {
	if n := len(keywords()); n != 39 {
		t.Fatalf("the chapter names %d words", n)
	}
	for _, s := range keywords() {
		for _, form := range []string{s, strings.ToUpper(s), strings.ToUpper(s[:1]) + s[1:], s[:1] + strings.ToUpper(s[1:])} {
			if !lex.Keyword(form) {
				t.Errorf("Keyword(%q) is false", form)
			}
		}
	}
}

func TestP32KeywordOfOtherWords(t *testing.T) {
	is := map[string]int{}
	for _, s := range keywords() {
		is[s] = 1
	}
	others := strings.Fields("a asc as all alter add avg between column distinct else exists foreign having in inner integer left like nil none offset outer references right rows tables top transaction unique union unknown varchar view with work _ count_ count1 prim")
	others = append(others, "", " ", "create table", "primary key", "is not null", ",", "*", "count(*)", "'text'", strings.Repeat("select", 100000))
	for _, s := range keywords() {
		others = append(others, s+"s", s+" ", " "+s, s+"\x00", s+"_", "_"+s, s+s, s[1:], s[:len(s)-1], s+"\n", s[:1]+" "+s[1:])
		for i := range s {
			// Octets that are those of letters but for one bit; as runes, some fold to letters of others.
			for _, turned := range []byte{0x01, 0x10, 0x40, 0x80} {
				b := []byte(s)
				b[i] ^= turned
				others = append(others, string(b))
			}
		}
	}
	others = append(others, "\u212aey", "li\u017ft", "\u0131nt", "\u0130nt", "in\u017fert", "bac\u212a", "rollbac\u212a", "\uff54rue")
	for _, s := range others {
		if lex.Keyword(s) != (is[s] == 1) {
			t.Errorf("Keyword(%.40q) is %t", s, lex.Keyword(s))
		}
	}
}

func TestP32LowerOfEachOctet(t *testing.T) {
	for c := range 256 {
		want := byte(c)
		if at := strings.IndexByte("ABCDEFGHIJKLMNOPQRSTUVWXYZ", want); at >= 0 {
			want = "abcdefghijklmnopqrstuvwxyz"[at]
		}
		given := string([]byte{byte(c)})
		if s := lex.Lower(given); s != string([]byte{want}) {
			t.Errorf("Lower(%x) = %x", given, s)
		}
		if s := lex.Lower("Q" + given + "\xff" + given + "z"); s != "q"+string([]byte{want, 0xff, want})+"z" {
			t.Errorf("Lower of %x among others = %x", given, s)
		}
	}
}

func TestP32LowerOneByOne(t *testing.T) {
	for s, want := range map[string]string{
		"":                                "",
		"SeLect":                          "select",
		"lower":                           "lower",
		"A_Z09":                           "a_z09",
		"Don't LOOK 'Here' -- NOR\nTHERE": "don't look 'here' -- nor\nthere",
		"\u00c4\u00d6\u0410\u212a\u0130":  "\u00c4\u00d6\u0410\u212a\u0130", // other letters stay as they are
		"\xc3A\x84Z\x80":                  "\xc3a\x84z\x80",
		strings.Repeat("Ab", 1<<20):       strings.Repeat("ab", 1<<20),
	} {
		if got := lex.Lower(s); got != want {
			t.Errorf("Lower(%.40q) = %.40q", s, got)
		}
	}
}

func TestP34MemoryOfLower(t *testing.T) {
	for _, s := range []string{"", "a", "A", "abc", "ABC", "aB", "\xff", strings.Repeat("a", 1000), strings.Repeat("A", 1000)} {
		given := strings.Clone(s)
		first, second := lex.Lower(given), lex.Lower(given)
		if given != s || first != second {
			t.Errorf("Lower(%.40q): %.40q, once more %.40q", s, first, second)
		}
		if within(first, given) || within(first, second) || within(lex.Lower(first), first) {
			t.Errorf("Lower(%.40q) shares its text", s)
		}
	}
}

func TestP34MemoryOfKeyword(t *testing.T) {
	for _, s := range []string{"SELECT", "selects", ""} {
		given := strings.Clone(s)
		if is := lex.Keyword(given); given != s || is != lex.Keyword(s) {
			t.Errorf("Keyword(%q) left %q", s, given)
		}
	}
}
