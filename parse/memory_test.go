package parse_test

import (
	"reflect"
	"strings"
	"testing"
	"unsafe"

	"switchback/api"
	"switchback/parse"
)

// A piece of memory: where it begins and ends.
type piece struct {
	from, to uintptr
	list     bool
}

// pieces puts what an answer holds: its lists, as far as they have room, and its texts.
func pieces(v reflect.Value, l []piece) []piece {
	switch v.Kind() {
	case reflect.String:
		s := v.String()
		if s != "" {
			from := uintptr(unsafe.Pointer(unsafe.StringData(s)))
			l = append(l, piece{from, from + uintptr(len(s)), false})
		}
	case reflect.Slice:
		if v.Cap() > 0 {
			l = append(l, piece{v.Pointer(), v.Pointer() + uintptr(v.Cap())*v.Type().Elem().Size(), true})
		}
		for i := range v.Len() {
			l = pieces(v.Index(i), l)
		}
	case reflect.Struct:
		for i := range v.NumField() {
			l = pieces(v.Field(i), l)
		}
	}
	return l
}

func (p piece) meets(q piece) bool {
	return p.from < q.to && q.from < p.to
}

// apart tells whether no list of an answer meets another one of it, and nothing of one anything of the other.
func apart(t *testing.T, s string, first, second any) {
	t.Helper()
	l, m := pieces(reflect.ValueOf(first), nil), pieces(reflect.ValueOf(second), nil)
	given := pieces(reflect.ValueOf(s), nil)
	for i, p := range l {
		for _, q := range append(m, given...) {
			if p.meets(q) {
				t.Fatalf("%q: shared with another answer, or with the text", s)
			}
		}
		for _, q := range l[:i] {
			if p.list && q.list && p.meets(q) {
				t.Fatalf("%q: two lists of one answer share memory", s)
			}
		}
	}
}

func TestP54AnswersAreNewMemory(t *testing.T) {
	next := rolled(8)
	for _, o := range ordinary() {
		for _, s := range []string{o.s, strings.ToUpper(o.s), spelled(next, wordsOf(o.s))} {
			given := strings.Clone(s)
			first, _, e := parse.Parse(given)
			second, _, f := parse.Parse(given)
			if e != api.OK || f != api.OK || !reflect.DeepEqual(first, second) || given != s {
				t.Fatalf("Parse(%q) = %#v, %d, once more %#v, %d", s, first, e, second, f)
			}
			apart(t, given, first, second)
		}
	}
	for _, s := range []string{"a", "t.a", "'x'", "'it''s' = a", "a + b * (c - a) / 2 = 1 and not t.a is null or count(*) > sum(a)", "((a) + (a))", "-(-(a))", "count(*) + count(*)"} {
		given := strings.Clone(s)
		first, _, e := parse.Expr(given)
		second, _, f := parse.Expr(given)
		if e != api.OK || f != api.OK || !reflect.DeepEqual(first, second) || given != s {
			t.Fatalf("Expr(%q) = %#v, %d, once more %#v, %d", s, first, e, second, f)
		}
		apart(t, given, first, second)
	}
}

// What is written into an answer is not seen in another one.
func TestP54AnswersAreTheCallersOwn(t *testing.T) {
	for _, o := range ordinary() {
		x, _, _ := parse.Parse(o.s)
		spoil := func(l []api.Expr) {
			l = l[:cap(l)]
			for i := range l {
				for j := range l[i].Args {
					l[i].Args[j] = text("spoilt")
				}
				l[i] = text("spoilt")
			}
		}
		for _, row := range x.Rows {
			spoil(row)
		}
		for _, l := range [][]api.Expr{x.Items, x.On, x.Where, x.Group} {
			spoil(l)
		}
		for i := range x.Columns {
			x.Columns[i] = api.Column{Name: "spoilt"}
		}
		for i := range x.Sets {
			x.Sets[i] = api.Set{Name: "spoilt"}
		}
		for i := range x.Order {
			x.Order[i] = api.Order{N: -1}
		}
		parses(t, o.s, o.x)
	}
}

// What was parsed or refused ahead does not matter.
func TestP54NothingIsKeptFromCallToCall(t *testing.T) {
	ahead := []string{"", "@", "begin begin", "((((((((", strings.Repeat("(", 33), strings.Repeat("not ", 40), "select a from t where " + strings.Repeat("- ", 20) + "a", strings.Repeat("a ", 401), strings.Repeat(" ", 3000)}
	for _, o := range ordinary() {
		ahead = append(ahead, o.s)
	}
	for _, first := range ahead {
		_, n, e := parse.Parse(first)
		_, m, f := parse.Expr(first)
		for _, o := range ordinary() {
			parses(t, o.s, o.x)
		}
		parsesExpr(t, nest{"(", ")"}.times(32, "a"), col("a"))
		refusesExpr(t, nest{"(", ")"}.times(33, "a"), 32, api.ErrDeep)
		_, n2, e2 := parse.Parse(first)
		_, m2, f2 := parse.Expr(first)
		if n != n2 || e != e2 || m != m2 || f != f2 {
			t.Errorf("%q: %d, %d, %d, %d, then %d, %d, %d, %d", first, n, e, m, f, n2, e2, m2, f2)
		}
	}
}

// In whatever order the calls come, side by side too, each tells the same.
func TestP54SideBySide(t *testing.T) {
	done := make(chan bool)
	for range 8 {
		go func() {
			defer func() { done <- true }()
			for range 20 {
				for _, o := range ordinary() {
					x, at, e := parse.Parse(o.s)
					if at != len(o.s) || e != api.OK || x.Kind != o.x.Kind || x.Table != o.x.Table {
						t.Errorf("Parse(%q) = %#v, %d, %d", o.s, x, at, e)
					}
				}
			}
		}()
	}
	for range 8 {
		<-done
	}
}
