package parse_test

import (
	"strings"
	"testing"

	"switchback/api"
	"switchback/lex"
	"switchback/parse"
	"switchback/syntax"
)

// A second reading of the chapter's words: rules, of which a chart (Earley's) tells with which tokens a text may begin. Capital letters stand for rules, #w, #n, #s for a name, a number and a string.
const grammar = `
STATEMENT = S | S ;
S = create table #w ( DEFINITION , primary key ( #w ) ) | create index #w on #w ( #w ) | drop table #w
S = insert into #w values ROWS | update #w set SETS WHERE | delete from #w WHERE
S = select LIST from #w JOIN WHERE GROUP ORDER LIMIT | begin | commit | rollback
DEFINITION = COLUMN | DEFINITION , COLUMN
COLUMN = #w KIND | #w KIND not null
KIND = int | bool | text
ROWS = ( LIST ) | ROWS , ( LIST )
LIST = OR | LIST , OR
SETS = #w = OR | SETS , #w = OR
JOIN = | join #w on OR
WHERE = | where OR
GROUP = | group by GROUPED
GROUPED = REF | ( GROUPED )
ORDER = | order by ORDERS
ORDERS = ONE | ORDERS , ONE
ONE = #n | #n desc
LIMIT = | limit #n
OR = AND | OR or AND
AND = NOT | AND and NOT
NOT = COMPARISON | not NOT
COMPARISON = SUM | SUM is null | SUM is not null | SUM = SUM | SUM <> SUM | SUM < SUM | SUM <= SUM | SUM > SUM | SUM >= SUM
SUM = PRODUCT | SUM + PRODUCT | SUM - PRODUCT
PRODUCT = SIGNED | PRODUCT * SIGNED | PRODUCT / SIGNED
SIGNED = PART | - SIGNED
PART = #n | #s | null | true | false | REF | ( OR ) | count ( * ) | count ( OR ) | sum ( OR ) | min ( OR ) | max ( OR )
REF = #w | #w . #w
`

// An item is a rule, how much of it is there, and behind which token it began.
type item struct {
	rule, dot, from int
}

type rule struct {
	left  string
	right []string
}

// A chart is of a text's beginning: for each of its places, what may stand there.
type chart struct {
	rules []rule
	of    map[string][]int
	sets  [][]item
}

func newChart(start string) chart {
	c := chart{of: map[string][]int{}}
	for _, line := range strings.Split(strings.TrimSpace(grammar), "\n") {
		left, right, _ := strings.Cut(line, " =")
		for _, one := range strings.Split(right, " | ") {
			c.of[left] = append(c.of[left], len(c.rules))
			c.rules = append(c.rules, rule{left, strings.Fields(one)})
		}
	}
	// GROUP, LIMIT and the like may be empty.
	c.rules = append(c.rules, rule{"", []string{start}})
	return c.with([]item{{len(c.rules) - 1, 0, 0}})
}

// asked answers what an item asks for next; none, if it is whole.
func (c chart) asked(x item) string {
	if right := c.rules[x.rule].right; x.dot < len(right) {
		return right[x.dot]
	}
	return ""
}

// with is a chart with one more set: of these items, and all that follow of them.
func (c chart) with(set []item) chart {
	at := len(c.sets)
	put := func(x item) {
		for _, y := range set {
			if x == y {
				return
			}
		}
		set = append(set, x)
	}
	for i := 0; i < len(set); i++ {
		x := set[i]
		asked := c.asked(x)
		for _, n := range c.of[asked] {
			put(item{n, 0, at})
			if len(c.rules[n].right) == 0 {
				put(item{x.rule, x.dot + 1, x.from})
			}
		}
		if asked != "" || x.from == at {
			continue
		}
		for _, y := range c.sets[x.from] {
			if c.asked(y) == c.rules[x.rule].left {
				put(item{y.rule, y.dot + 1, y.from})
			}
		}
	}
	c.sets = append(c.sets[:at:at], set)
	return c
}

// next is the chart with one token more, and whether the text may begin so.
func (c chart) next(token string) (chart, bool) {
	var set []item
	for _, x := range c.sets[len(c.sets)-1] {
		if c.asked(x) == token {
			set = append(set, item{x.rule, x.dot + 1, x.from})
		}
	}
	if set == nil {
		return c, false
	}
	return c.with(set), true
}

// whole tells whether the text may end here.
func (c chart) whole() bool {
	for _, x := range c.sets[len(c.sets)-1] {
		if c.rules[x.rule].left == "" && x.dot == 1 {
			return true
		}
	}
	return false
}

// classOf a token, as the rules have it.
func classOf(t lex.Token) string {
	switch {
	case t.Kind == 2:
		return "#n"
	case t.Kind == 3:
		return "#s"
	case t.Kind == 1 && !lex.Keyword(t.Text):
		return "#w"
	}
	return t.Text
}

// classes: each token that there is, with one to stand for it.
func classes() []string {
	return strings.Fields("a 1 'x' create table index on drop insert into values update set delete from where select join group by order desc limit begin commit rollback primary key not null is and or true false int bool text count sum min max ( ) , . * + - / = < > <= >= <> ;")
}

// place tells where a text is at fault, or how many octets it has, and whether it is whole.
func (c chart) place(s string) (int, bool) {
	tokens, _, _ := lex.Lex(s)
	for _, t := range tokens {
		is := false
		if c, is = c.next(classOf(t)); !is {
			return t.At, false
		}
	}
	return len(s), c.whole()
}

// holdStmt holds Parse of s against a chart. What is parsed is parsed of its print again.
func holdStmt(t *testing.T, c chart, s string) {
	t.Helper()
	at, whole := c.place(s)
	if !whole {
		refuses(t, s, at, api.ErrSyntax)
		return
	}
	x, n, e := parse.Parse(s)
	print, f := syntax.Print(x)
	if e != api.OK || n != at || f != api.OK {
		t.Fatalf("Parse(%q) = %#v, %d, %d, the print's error %d", s, x, n, e, f)
	}
	parses(t, print, x)
}

// All texts of few tokens, as far as they are at fault no earlier than in their last one.
func TestP51AllShortExpressions(t *testing.T) {
	whole, class := 0, map[string]string{}
	for _, token := range classes() {
		tokens, _, _ := lex.Lex(token)
		class[token] = classOf(tokens[0])
	}
	var grow func(c chart, s string, left int)
	grow = func(c chart, s string, left int) {
		if !c.whole() {
			refusesExpr(t, s, len(s), api.ErrSyntax)
		} else {
			whole++
			x, n, e := parse.Expr(s)
			print, f := syntax.PrintExpr(x)
			if e != api.OK || n != len(s) || f != api.OK {
				t.Fatalf("Expr(%q) = %#v, %d, %d, the print's error %d", s, x, n, e, f)
			}
			parsesExpr(t, print, x)
		}
		for _, token := range classes() {
			if d, is := c.next(class[token]); !is {
				refusesExpr(t, s+token+" ", len(s), api.ErrSyntax)
			} else if left > 0 {
				grow(d, s+token+" ", left-1)
			}
		}
	}
	grow(newChart("OR"), "", 4)
	if whole < 1000 {
		t.Errorf("only %d expressions", whole)
	}
}

// smallWords are a text's tokens, each number of which is 1: so that whatever has the form of a statement may be.
func smallWords(s string) []string {
	words := wordsOf(s)
	for i, word := range words {
		if word[0] >= '0' && word[0] <= '9' {
			words[i] = "1"
		}
	}
	return words
}

// Each text cut off, or with each token left out, twice, changed to or put ahead of each other one.
func TestP51EachChangeOfATokenOfStatements(t *testing.T) {
	start := newChart("STATEMENT")
	for _, o := range ordinary() {
		words := append(smallWords(o.s), ";")
		for i := range len(words) + 1 {
			ahead := strings.Join(words[:i], " ") + " "
			holdStmt(t, start, ahead)
			if i == len(words) {
				break
			}
			behind := strings.Join(words[i+1:], " ")
			holdStmt(t, start, ahead+behind)
			for _, token := range classes() {
				holdStmt(t, start, ahead+token+" "+behind)
				holdStmt(t, start, ahead+token+" "+words[i]+" "+behind)
			}
		}
		if t.Failed() {
			return
		}
	}
}

func TestP51ManyChangesOfStatements(t *testing.T) {
	start, next, all := newChart("STATEMENT"), rolled(4), classes()
	for range 20000 {
		l := ordinary()
		words := smallWords(l[next(len(l))].s)
		for range 1 + next(3) {
			i := next(len(words))
			switch next(4) {
			case 0:
				words[i] = all[next(len(all))]
			case 1:
				words = append(words[:i:i], append([]string{all[next(len(all))]}, words[i:]...)...)
			case 2:
				j := next(len(words))
				words[i], words[j] = words[j], words[i]
			case 3:
				if len(words) > 1 {
					words = append(words[:i:i], words[i+1:]...)
				}
			}
		}
		holdStmt(t, start, spelled(next, words))
		if t.Failed() {
			return
		}
	}
}
