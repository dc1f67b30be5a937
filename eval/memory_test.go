package eval_test

import (
	"fmt"
	"reflect"
	"strings"
	"testing"
	"unsafe"

	"switchback/api"
	"switchback/eval"
)

// A piece of memory: where it begins and ends.
type piece struct {
	from, to uintptr
}

// pieces puts what a thing holds: its lists, as far as they have room, and its texts.
func pieces(v reflect.Value, l []piece) []piece {
	switch v.Kind() {
	case reflect.String:
		s := v.String()
		if s != "" {
			from := uintptr(unsafe.Pointer(unsafe.StringData(s)))
			l = append(l, piece{from, from + uintptr(len(s))})
		}
	case reflect.Slice:
		if v.Cap() > 0 {
			l = append(l, piece{v.Pointer(), v.Pointer() + uintptr(v.Cap())*v.Type().Elem().Size()})
		}
		for i := range v.Len() {
			l = pieces(v.Index(i), l)
		}
	case reflect.Struct:
		for i := range v.NumField() {
			l = pieces(v.Field(i), l)
		}
	}
	return l
}

// apart tells whether nothing of an answer is anything of the others.
func apart(t *testing.T, what string, answer any, others ...any) {
	t.Helper()
	for _, x := range others {
		for _, q := range pieces(reflect.ValueOf(x), nil) {
			for _, p := range pieces(reflect.ValueOf(answer), nil) {
				if p.from < q.to && q.from < p.to {
					t.Fatalf("%s: it shares memory with what was given, or with another answer", what)
				}
			}
		}
	}
}

// roomy is a thing in memory of its own, whose lists have room behind their ends, into which nothing may be written.
func roomy(v reflect.Value) reflect.Value {
	w := reflect.New(v.Type()).Elem()
	switch v.Kind() {
	case reflect.String:
		w.SetString(strings.Clone(v.String()))
	case reflect.Slice:
		w.Set(reflect.MakeSlice(v.Type(), v.Len(), v.Len()+3))
		for i := range v.Len() {
			w.Index(i).Set(roomy(v.Index(i)))
		}
	case reflect.Struct:
		for i := range v.NumField() {
			w.Field(i).Set(roomy(v.Field(i)))
		}
	default:
		w.Set(v)
	}
	return w
}

// stretched shows a thing with all the room that its lists have.
func stretched(v reflect.Value) string {
	var s strings.Builder
	switch v.Kind() {
	case reflect.Slice:
		for i := range v.Cap() {
			s.WriteString(stretched(v.Slice(0, v.Cap()).Index(i)) + ",")
		}
		return "[" + s.String() + "]"
	case reflect.Struct:
		for i := range v.NumField() {
			s.WriteString(stretched(v.Field(i)) + ";")
		}
		return "{" + s.String() + "}"
	}
	return fmt.Sprintf("%#v", v.Interface())
}

func given[T any](x T) T {
	return roomy(reflect.ValueOf(x)).Interface().(T)
}

func shown(l ...any) string {
	var s strings.Builder
	for _, x := range l {
		s.WriteString(stretched(reflect.ValueOf(x)))
	}
	return s.String()
}

// keeps asks an expression over a row twice: what was given stays, and what is answered is new.
func keeps(t *testing.T, e api.Expr, row []api.Value) {
	t.Helper()
	e, row = given(e), given(row)
	was, what := shown(e, row), fmt.Sprint(e, row)
	first, err := eval.Eval(e, row)
	second, again := eval.Eval(e, row)
	yes, wrong := eval.True(e, row)
	once, more := eval.True(e, row)
	if first != second || err != again || yes != once || wrong != more || was != shown(e, row) {
		t.Fatalf("%s: %v, %d, once more %v, %d; or what was given is changed", what, first, err, second, again)
	}
	apart(t, what, first, second, e, row)
	apart(t, what, second, e, row)
}

func TestP83ValuesAreNewMemory(t *testing.T) {
	for _, v := range all() {
		keeps(t, lit(v), nil)
		keeps(t, at(1), []api.Value{text("ahead"), v, text("behind")})
		keeps(t, op(isNull, lit(v)), []api.Value{v})
		keeps(t, op(equal, at(0), lit(v)), []api.Value{v})
	}
	row := []api.Value{no, num(1), text("b")}
	for _, e := range shortExprs() {
		keeps(t, e, row)
	}
	next := rolled(83)
	for range 3000 {
		keeps(t, rolledPart(next, 1+next(3), 1+next(6)), rolledRow(next))
	}
}

func TestP83FoldsAreNewMemory(t *testing.T) {
	next := rolled(38)
	for range 3000 {
		l := make([]api.Value, next(9))
		for i := range l {
			l[i] = all()[next(len(all()))]
			if next(2) == 0 {
				l[i] = text(fmt.Sprint("x", next(5)))
			}
		}
		l = given(l)
		was := shown(l)
		for o := isNotNull; o <= maxOf+1; o++ {
			first, err := eval.Fold(o, l)
			second, again := eval.Fold(o, l)
			what := fmt.Sprint("op ", o, " of ", l)
			if first != second || err != again || was != shown(l) {
				t.Fatalf("%s: %v, %d, once more %v, %d; or what was given is changed", what, first, err, second, again)
			}
			apart(t, what, first, second, l)
			apart(t, what, second, l)
		}
	}
}

// Nil and empty lists are one.
func TestP83EmptyListsAreNone(t *testing.T) {
	for _, e := range shortExprs() {
		for _, row := range [][]api.Value{nil, {}} {
			v, err := eval.Eval(e, nil)
			if w, again := eval.Eval(given(e), row); v != w || err != again {
				t.Fatalf("%v: %v, %d, with empty lists %v, %d", e, v, err, w, again)
			}
		}
	}
}

// What was asked ahead does not matter, nor what is asked side by side.
func TestP83NothingIsKept(t *testing.T) {
	l := shortExprs()
	ask := func() string {
		var tell strings.Builder
		for i, e := range l {
			row := values()[i%8:]
			v, err := eval.Eval(e, row)
			is, wrong := eval.True(e, row)
			folded, refused := eval.Fold(countAll+i%5, row)
			fmt.Fprint(&tell, v, err, is, wrong, folded, refused, ";")
		}
		return tell.String()
	}
	want := ask()
	done := make(chan string)
	for range 8 {
		go func() { done <- ask() }()
	}
	for range 8 {
		if <-done != want {
			t.Error("told otherwise")
		}
	}
}
