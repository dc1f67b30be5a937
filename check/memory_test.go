package check_test

import (
	"fmt"
	"reflect"
	"slices"
	"strings"
	"testing"
	"unsafe"

	"switchback/api"
	"switchback/catalog"
	"switchback/check"
)

// A piece of memory: where it begins and ends.
type piece struct {
	from, to uintptr
	list     bool
}

// pieces puts what a thing holds: its lists, as far as they have room, and its texts.
func pieces(v reflect.Value, l []piece) []piece {
	switch v.Kind() {
	case reflect.String:
		s := v.String()
		if s != "" {
			from := uintptr(unsafe.Pointer(unsafe.StringData(s)))
			l = append(l, piece{from, from + uintptr(len(s)), false})
		}
	case reflect.Slice:
		if v.Cap() > 0 {
			l = append(l, piece{v.Pointer(), v.Pointer() + uintptr(v.Cap())*v.Type().Elem().Size(), true})
		}
		for i := range v.Len() {
			l = pieces(v.Index(i), l)
		}
	case reflect.Struct:
		for i := range v.NumField() {
			l = pieces(v.Field(i), l)
		}
	}
	return l
}

func (p piece) meets(q piece) bool {
	return p.from < q.to && q.from < p.to
}

// apart tells whether no list of an answer meets another one of it, and nothing of it anything of the others.
func apart(t *testing.T, what string, answer any, others ...any) {
	t.Helper()
	l := pieces(reflect.ValueOf(answer), nil)
	var m []piece
	for _, x := range others {
		m = pieces(reflect.ValueOf(x), m)
	}
	for i, p := range l {
		for _, q := range m {
			if p.meets(q) {
				t.Fatalf("%s: it shares memory with what was given, or with another answer", what)
			}
		}
		for _, q := range l[:i] {
			if p.list && q.list && p.meets(q) {
				t.Fatalf("%s: two lists of it share memory", what)
			}
		}
	}
}

// roomy is a thing in memory of its own, whose lists have room behind their ends, into which nothing may be written.
func roomy(v reflect.Value) reflect.Value {
	w := reflect.New(v.Type()).Elem()
	switch v.Kind() {
	case reflect.String:
		w.SetString(strings.Clone(v.String()))
	case reflect.Slice:
		w.Set(reflect.MakeSlice(v.Type(), v.Len(), v.Len()+3))
		for i := range v.Len() {
			w.Index(i).Set(roomy(v.Index(i)))
		}
	case reflect.Struct:
		for i := range v.NumField() {
			w.Field(i).Set(roomy(v.Field(i)))
		}
	default:
		w.Set(v)
	}
	return w
}

// stretched shows a thing with all the room that its lists have.
func stretched(v reflect.Value) string {
	switch v.Kind() {
	case reflect.Slice:
		var s strings.Builder
		for i := range v.Cap() {
			s.WriteString(stretched(v.Slice(0, v.Cap()).Index(i)) + ",")
		}
		return "[" + s.String() + "]"
	case reflect.Struct:
		var s strings.Builder
		for i := range v.NumField() {
			s.WriteString(stretched(v.Field(i)) + ";")
		}
		return "{" + s.String() + "}"
	}
	return fmt.Sprintf("%#v", v.Interface())
}

func given[T any](x T) T {
	return roomy(reflect.ValueOf(x)).Interface().(T)
}

func shown(l ...any) string {
	var s strings.Builder
	for _, x := range l {
		s.WriteString(stretched(reflect.ValueOf(x)))
	}
	return s.String()
}

func TestP74ExpressionsAreNewMemory(t *testing.T) {
	for _, s := range []string{"a", "t.a", "u.a", "'it''s'", "'x' = c", "a + f", "t.a + 1 * n - f / 2 = 3 and not b or u.a is null", "count(*)", "sum(t.a + t.a) = count('x')", "min(d) = max('y')", "a + c", "nowhere"} {
		scope, e := given(tables("t", "u")), given(expr(s))
		if s == "a" {
			scope = given(tables("t"))
		}
		was := shown(scope, e)
		first, k, err := check.Expr(scope, e, true)
		second, l, again := check.Expr(scope, e, true)
		if k != l || err != again || !same(first, second) || was != shown(scope, e) {
			t.Fatalf("%s: %v, %d, %d, once more %v, %d, %d; or what was given is changed", s, first, k, err, second, l, again)
		}
		apart(t, s, first, second, scope, e)
		apart(t, s, second, scope, e)
	}
}

// everyOne are statements of each kind, rolled ones too.
func everyOne() []api.Stmt {
	next := rolled(13)
	var l []api.Stmt
	for _, s := range one() {
		l = append(l, stmt(s))
	}
	for range 500 {
		l = append(l, rolledStmt(next))
	}
	return l
}

func TestP74StatementsAreNewMemory(t *testing.T) {
	for _, x := range everyOne() {
		s, x := given(some()), given(x)
		was := shown(s, x)
		first, err := check.Stmt(s, x)
		second, again := check.Stmt(s, x)
		if err != again || !sameTyped(first, second) || was != shown(s, x) {
			t.Fatalf("%+v: %+v, %d, once more %+v, %d; or what was given is changed", x, first, err, second, again)
		}
		apart(t, fmt.Sprintf("%+v", x), first, second, s, x)
		apart(t, fmt.Sprintf("%+v", x), second, s, x)
	}
}

// What is refused, at whatever part, changes nothing either.
func TestP74WhatIsRefusedIsNotChanged(t *testing.T) {
	for _, w := range wrongStmts() {
		s, x := given(some()), given(w.x)
		was := shown(s, x)
		if y, err := check.Stmt(s, x); !isZero(y) || err != w.want || was != shown(s, x) {
			t.Fatalf("%+v: %+v, %d; or what was given is changed", x, y, err)
		}
	}
}

// spoil writes into all lists of an answer, as far as they have room.
func spoil(v reflect.Value) {
	switch v.Kind() {
	case reflect.Slice:
		v = v.Slice(0, v.Cap())
		for i := range v.Len() {
			spoil(v.Index(i))
			v.Index(i).SetZero()
		}
	case reflect.Struct:
		for i := range v.NumField() {
			spoil(v.Field(i))
		}
	}
}

// What is written into an answer is not seen in what was given, nor in another answer.
func TestP74AnswersAreTheCallersOwn(t *testing.T) {
	for _, x := range everyOne() {
		s, x := given(some()), given(x)
		was := shown(s, x)
		first, _ := check.Stmt(s, x)
		kept := shown(first)
		second, _ := check.Stmt(s, x)
		spoil(reflect.ValueOf(&second).Elem())
		if kept != shown(first) || was != shown(s, x) {
			t.Fatalf("%+v: what was written into an answer is seen", x)
		}
	}
}

// Nil and empty lists are one.
func TestP74EmptyListsAreNone(t *testing.T) {
	for _, x := range everyOne() {
		y := given(x) // its lists are empty where those of x are nil
		a, err := check.Stmt(some(), x)
		b, again := check.Stmt(given(some()), y)
		if err != again || !sameTyped(a, b) {
			t.Fatalf("%+v: %+v, %d, with empty lists %+v, %d", x, a, err, b, again)
		}
	}
}

// What was asked ahead does not matter, nor what is asked side by side.
func TestP74NothingIsKept(t *testing.T) {
	all := everyOne()
	ask := func() string {
		var tell strings.Builder
		for _, x := range all {
			y, err := check.Stmt(some(), x)
			fmt.Fprint(&tell, y, err)
		}
		for _, s := range []string{"a + n", "a + c", "x.a", "count(*)", "sum(sum(a))", "nowhere"} {
			for _, scope := range [][]catalog.Table{tables("t"), tables("t", "u"), nil} {
				e, k, err := check.Expr(scope, expr(s), true)
				fmt.Fprint(&tell, e, k, err)
			}
		}
		return tell.String()
	}
	want := ask()
	backwards := slices.Clone(all)
	slices.Reverse(backwards)
	for _, x := range backwards {
		check.Stmt(some(), x)
	}
	done := make(chan string)
	for range 8 {
		go func() { done <- ask() }()
	}
	for range 8 {
		if <-done != want {
			t.Error("told otherwise")
		}
	}
}
