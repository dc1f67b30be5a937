package plan_test

import (
	"fmt"
	"reflect"
	"slices"
	"strings"
	"testing"
	"unsafe"

	"switchback/api"
	"switchback/catalog"
	"switchback/plan"
)

// A piece of memory: where it begins and ends.
type piece struct {
	from, to uintptr
}

// pieces puts what a thing holds: its lists, as far as they have room, and its texts.
func pieces(v reflect.Value, l []piece) []piece {
	switch v.Kind() {
	case reflect.String:
		s := v.String()
		if s != "" {
			from := uintptr(unsafe.Pointer(unsafe.StringData(s)))
			l = append(l, piece{from, from + uintptr(len(s))})
		}
	case reflect.Slice:
		if v.Cap() > 0 {
			l = append(l, piece{v.Pointer(), v.Pointer() + uintptr(v.Cap())*v.Type().Elem().Size()})
		}
		for i := range v.Len() {
			l = pieces(v.Index(i), l)
		}
	case reflect.Struct:
		for i := range v.NumField() {
			l = pieces(v.Field(i), l)
		}
	}
	return l
}

// apart tells whether no two parts of an answer meet, and nothing of it anything of the others.
func apart(t *testing.T, what string, answer any, others ...any) {
	t.Helper()
	type owned struct {
		piece
		answers bool
	}
	var l []owned
	for _, p := range pieces(reflect.ValueOf(answer), nil) {
		l = append(l, owned{p, true})
	}
	for _, x := range others {
		for _, p := range pieces(reflect.ValueOf(x), nil) {
			l = append(l, owned{p, false})
		}
	}
	slices.SortFunc(l, func(p, q owned) int {
		if p.from < q.from {
			return -1
		}
		return min(1, int(p.from-q.from))
	})
	// Of all ahead, and of the answer's ahead: how far they go.
	var all, own uintptr
	for _, p := range l {
		if p.answers && p.from < all || p.from < own {
			t.Fatalf("%s: an answer shares memory with what was given, with another answer or with another part of it", what)
		}
		all = max(all, p.to)
		if p.answers {
			own = max(own, p.to)
		}
	}
}

// roomy is a thing in memory of its own, whose lists have room behind their ends, into which nothing may be written.
func roomy(v reflect.Value) reflect.Value {
	w := reflect.New(v.Type()).Elem()
	switch v.Kind() {
	case reflect.String:
		w.SetString(strings.Clone(v.String()))
	case reflect.Slice:
		w.Set(reflect.MakeSlice(v.Type(), v.Len(), v.Len()+3))
		for i := range v.Len() {
			w.Index(i).Set(roomy(v.Index(i)))
		}
	case reflect.Struct:
		for i := range v.NumField() {
			w.Field(i).Set(roomy(v.Field(i)))
		}
	default:
		w.Set(v)
	}
	return w
}

func given[T any](x T) T {
	return roomy(reflect.ValueOf(x)).Interface().(T)
}

// stretched shows a thing with all the room that its lists have.
func stretched(v reflect.Value) string {
	var s strings.Builder
	switch v.Kind() {
	case reflect.Slice:
		for i := range v.Cap() {
			s.WriteString(stretched(v.Slice(0, v.Cap()).Index(i)) + ",")
		}
		return "[" + s.String() + "]"
	case reflect.Struct:
		for i := range v.NumField() {
			s.WriteString(stretched(v.Field(i)) + ";")
		}
		return "{" + s.String() + "}"
	}
	return fmt.Sprintf("%#v", v.Interface())
}

func shown(x any) string {
	return stretched(reflect.ValueOf(x))
}

// Told is all that the calls tell of two plans, a value, a table and a condition.
type Told struct {
	Met    plan.Plan
	Turned plan.Plan
	Has    bool
	From   string
	To     string
	Chosen plan.Plan
	Errors [2]api.Errno
}

// An Ask is what calls are given.
type Ask struct {
	First  plan.Plan
	Second plan.Plan
	Value  api.Value
	Table  catalog.Table
	Where  []api.Expr
}

func tell(a Ask) Told {
	var x Told
	x.Met, x.Turned = plan.Meet(a.First, a.Second), plan.Meet(a.Second, a.First)
	x.Has = plan.Has(a.First, a.Value)
	x.From, x.To, x.Errors[0] = plan.Keys(a.First)
	x.Chosen, x.Errors[1] = plan.Choose(a.Table, a.Where)
	return x
}

// asks are calls of many plans and conditions; some may not be.
func asks() []Ask {
	r := roller{next: rolled(135)}
	all := spans([]api.Value{text("a text"), text("another"), num(3), truth(1), text(strings.Repeat("long", 17))})
	var l []Ask
	for i := range 600 {
		r.wild = i%2 > 0
		of := r.table()
		l = append(l, given(Ask{all[r.next(len(all))], all[r.next(len(all))], r.value(r.next(4)), of, r.where(of)}))
	}
	for _, n := range []int{equal, below, atMost, above, atLeast} {
		for place := range 4 {
			l = append(l, given(Ask{all[n], all[n+20], text("a text"), table(3, place), where(op(n, col(3), lit(text("a text"))), op(n, lit(text("a longer text")), col(3)), op(n, col(place), lit(num(1))))}))
		}
	}
	return l
}

// where is that all are true.
func where(l ...api.Expr) []api.Expr {
	return []api.Expr{all(l[0], l[1:]...)}
}

func TestP135AnswersAreNewMemory(t *testing.T) {
	texts := 0
	for i, a := range asks() {
		was := shown(a)
		first, second := tell(a), tell(a)
		if shown(a) != was {
			t.Fatalf("ask %d: what was given is changed", i)
		}
		if first != second {
			t.Fatalf("ask %d: told otherwise once more", i)
		}
		what := fmt.Sprint("ask ", i)
		apart(t, what, first, a, second)
		apart(t, what, second, a, first)
		texts += len(first.Chosen.Low.Value.Text) + len(first.Chosen.High.Value.Text)
	}
	if texts == 0 {
		t.Error("no text was told")
	}
}

// Also where one text, or one list, is handed in at several places.
func TestP135WhatIsSharedByArguments(t *testing.T) {
	v := given(text("a text"))
	for _, p := range []plan.Plan{span(1, in(v), in(v)), span(1, in(v), open), span(1, open, out(v)), span(1, plan.Bound{Open: true, Value: v}, plan.Bound{Open: true, Value: v})} {
		apart(t, "Meet", []plan.Plan{plan.Meet(p, p)}, []plan.Plan{p}, plan.Meet(p, p))
		low, high, _ := plan.Keys(p)
		apart(t, "Keys", []string{low, high}, p)
	}
	e := op(equal, col(3), lit(v))
	where := []api.Expr{{Op: 14, Args: []api.Expr{e, e}}}
	p, err := plan.Choose(table(3), where)
	if err != api.OK || p != span(1, in(v), in(v)) {
		t.Fatal("Choose:", p, err)
	}
	apart(t, "Choose", p, where, v)
}

// Nil and empty lists are one.
func TestP135EmptyListsAreNone(t *testing.T) {
	var bare, full func(e api.Expr) api.Expr
	emptied := func(e api.Expr, none []api.Expr, of func(e api.Expr) api.Expr) api.Expr {
		l := none
		for _, a := range e.Args {
			l = append(l, of(a))
		}
		e.Args = l
		return e
	}
	bare = func(e api.Expr) api.Expr { return emptied(e, nil, bare) }
	full = func(e api.Expr) api.Expr { return emptied(e, []api.Expr{}, full) }
	for i, a := range asks() {
		b, f := a, a
		b.Where, f.Where = nil, []api.Expr{}
		for _, e := range a.Where {
			b.Where, f.Where = append(b.Where, bare(e)), append(f.Where, full(e))
		}
		if len(a.Table.Indexes) == 0 {
			b.Table.Indexes, f.Table.Indexes = nil, []catalog.Index{}
		}
		if x, y := tell(b), tell(f); x != y {
			t.Errorf("ask %d: nil and empty are told apart: %+v, %+v", i, x, y)
		}
	}
	for _, columns := range [][]api.Column{nil, {}} {
		if _, err := plan.Choose(catalog.Table{Name: "t", Columns: columns}, nil); err != api.ErrState {
			t.Error("no columns:", err)
		}
	}
}

// What was asked ahead does not matter, nor what is asked side by side.
func TestP135NothingIsKept(t *testing.T) {
	l := asks()
	all := func() string {
		var s strings.Builder
		for _, a := range l {
			fmt.Fprint(&s, tell(a), ";")
		}
		return s.String()
	}
	want := all()
	done := make(chan string)
	for range 4 {
		go func() { done <- all() }()
	}
	for range 4 {
		if <-done != want {
			t.Error("told otherwise")
		}
	}
}
