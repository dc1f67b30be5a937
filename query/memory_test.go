package query_test

import (
	"fmt"
	"reflect"
	"slices"
	"strings"
	"testing"
	"unsafe"

	"switchback/api"
	"switchback/check"
	"switchback/query"
)

// A piece of memory: where it begins and ends.
type piece struct {
	from, to uintptr
	list     bool
}

// pieces puts what a thing holds: its lists, as far as they have room, and its texts.
func pieces(v reflect.Value, l []piece) []piece {
	switch v.Kind() {
	case reflect.String:
		s := v.String()
		if s != "" {
			from := uintptr(unsafe.Pointer(unsafe.StringData(s)))
			l = append(l, piece{from, from + uintptr(len(s)), false})
		}
	case reflect.Slice:
		if v.Cap() > 0 {
			l = append(l, piece{v.Pointer(), v.Pointer() + uintptr(v.Cap())*v.Type().Elem().Size(), true})
		}
		for i := range v.Len() {
			l = pieces(v.Index(i), l)
		}
	case reflect.Struct:
		for i := range v.NumField() {
			l = pieces(v.Field(i), l)
		}
	}
	return l
}

func (p piece) meets(q piece) bool {
	return p.from < q.to && q.from < p.to
}

// apart tells whether no two parts of an answer meet, and nothing of it anything of the others.
func apart(t *testing.T, what string, answer any, others ...any) {
	t.Helper()
	l := pieces(reflect.ValueOf(answer), nil)
	var m []piece
	for _, x := range others {
		m = pieces(reflect.ValueOf(x), m)
	}
	for i, p := range l {
		for _, q := range m {
			if p.meets(q) {
				t.Fatalf("%s: it shares memory with what was given, or with another answer", what)
			}
		}
		for _, q := range l[:i] {
			if p.meets(q) {
				t.Fatalf("%s: two parts of one answer share memory", what)
			}
		}
	}
}

// roomy is a thing in memory of its own, whose lists have room behind their ends, into which nothing may be written.
func roomy(v reflect.Value) reflect.Value {
	w := reflect.New(v.Type()).Elem()
	switch v.Kind() {
	case reflect.String:
		w.SetString(strings.Clone(v.String()))
	case reflect.Slice:
		w.Set(reflect.MakeSlice(v.Type(), v.Len(), v.Len()+3))
		for i := range v.Len() {
			w.Index(i).Set(roomy(v.Index(i)))
		}
	case reflect.Struct:
		for i := range v.NumField() {
			w.Field(i).Set(roomy(v.Field(i)))
		}
	default:
		w.Set(v)
	}
	return w
}

func given[T any](x T) T {
	return roomy(reflect.ValueOf(x)).Interface().(T)
}

// stretched shows a thing with all the room that its lists have.
func stretched(v reflect.Value) string {
	var s strings.Builder
	switch v.Kind() {
	case reflect.Slice:
		for i := range v.Cap() {
			s.WriteString(stretched(v.Slice(0, v.Cap()).Index(i)) + ",")
		}
		return "[" + s.String() + "]"
	case reflect.Struct:
		for i := range v.NumField() {
			s.WriteString(stretched(v.Field(i)) + ";")
		}
		return "{" + s.String() + "}"
	}
	return fmt.Sprintf("%#v", v.Interface())
}

func shown(x any) string {
	return stretched(reflect.ValueOf(x))
}

// An Ask is what calls are given.
type Ask struct {
	A, B   []row
	On     []api.Expr
	Where  []api.Expr
	Items  []api.Expr
	Folds  []api.Expr
	Group  int
	Order  []api.Order
	Limit  int
	Single check.Typed
	Double check.Typed
	Groups check.Typed
}

// calls answers what each call tells.
func (a Ask) calls() (l [8][]row, e [8]api.Errno) {
	l[0], e[0] = query.Join(a.A, a.B, a.On)
	l[1], e[1] = query.Filter(a.A, a.Where)
	l[2], e[2] = query.Project(a.A, a.Items)
	l[3], e[3] = query.Gather(a.A, a.Group, a.Folds)
	l[4], e[4] = query.Sort(a.A, a.Order, a.Limit)
	l[5], e[5] = query.Select(a.Single, a.A, a.B)
	l[6], e[6] = query.Select(a.Double, a.A, a.B)
	l[7], e[7] = query.Select(a.Groups, a.A, a.B)
	return l, e
}

// askOf makes the selects of the other parts.
func askOf(a Ask) Ask {
	stmt := api.Stmt{Kind: 7, Table: "t", Items: a.Items, Join: "u", On: a.On, Where: a.Where, Limit: a.Limit}
	if len(a.Items) > 0 {
		stmt.Order = []api.Order{{N: 1, Desc: true}}
	}
	a.Single = check.Typed{Stmt: stmt, Table: 0, Join: -1, Group: -1, Kinds: []int{1, 2}}
	a.Double = check.Typed{Stmt: stmt, Table: 0, Join: 1, Group: -1}
	stmt.Items, stmt.Order = a.Folds, nil
	a.Groups = check.Typed{Stmt: stmt, Table: 0, Join: 1, Group: a.Group}
	return given(a)
}

// asks are calls of all kinds; some are refused.
func asks() []Ask {
	l := []Ask{
		askOf(Ask{}),
		askOf(Ask{A: some(), B: some()[:2], Items: exprs(at(2), at(2), lit(text("a literal")), at(0)), Folds: exprs(at(2), op(minOf, at(2)), op(maxOf, at(2)), op(maxOf, lit(text("a literal"))), lit(text("b")), all()), Group: 2, Limit: -1}),
		askOf(Ask{A: some(), B: some(), On: exprs(op(equal, at(2), at(5))), Where: exprs(op(equal, at(2), lit(text("b")))), Items: exprs(at(2), at(0)), Folds: exprs(at(2), op(minOf, at(2))), Group: -1, Order: orders(falling(3), rising(1)), Limit: 3}),
		askOf(Ask{A: some(), B: some(), On: exprs(lit(yes)), Where: exprs(at(1)), Items: exprs(at(2)), Folds: exprs(at(2), at(2)), Group: 1, Order: orders(rising(2)), Limit: 100}),
		askOf(Ask{A: []row{nil, {}}, B: []row{{}, {text("x")}}, Items: exprs(lit(text("x")), lit(text("x"))), Folds: exprs(lit(text("x")), all()), Group: -1, Limit: -1}),
	}
	next := roller(rolled(105))
	for range 600 {
		l = append(l, askOf(Ask{
			A: next.rows(5), B: next.rows(3), On: next.condition(2), Where: next.condition(1),
			Items: next.items(1, false), Folds: next.items(1, true), Group: next(5) - 1, Order: next.orders(4), Limit: next(6) - 1,
		}))
	}
	return l
}

func TestP105AnswersAreNewMemory(t *testing.T) {
	done := [8]int{}
	for i, a := range asks() {
		was := shown(a)
		first, e := a.calls()
		second, f := a.calls()
		if shown(a) != was {
			t.Fatalf("ask %d: what was given is changed", i)
		}
		for call, l := range first {
			if e[call] != f[call] || !same(l, second[call]) {
				t.Fatalf("ask %d, call %d: %s, %d, once more %s, %d", i, call, brief(l), e[call], brief(second[call]), f[call])
			}
			if len(l) > 0 {
				done[call]++
			}
			what := fmt.Sprint("ask ", i, ", call ", call)
			apart(t, what, l, second[call], a, slices.Delete(slices.Clone(first[:]), call, call+1))
			apart(t, what, second[call], a)
		}
	}
	for call, n := range done {
		if n < 50 {
			t.Errorf("call %d told rows %d times only", call, n)
		}
	}
}

// What is handed in once for many rows, or for many items, is many lists and texts in the answer.
func TestP105PartsOfAnAnswerAreApart(t *testing.T) {
	values := make([]api.Value, 0, 9)
	for n := range 9 {
		values = append(values, text(fmt.Sprint("text ", n/3)))
	}
	cut := []row{values[0:3], values[3:6], values[3:6], values[6:9]} // the room of each is the next one
	tell := func(what string, want int, l []row, err api.Errno) {
		t.Helper()
		if len(l) != want || err != api.OK {
			t.Errorf("%s = %s, %d", what, brief(l), err)
		}
		apart(t, what, l, cut, values)
	}
	l, err := query.Join(cut, cut, nil)
	tell("Join", 16, l, err)
	l, err = query.Join(cut, []row{{}}, nil)
	tell("Join with a row of nothing", 4, l, err)
	l, err = query.Filter(cut, nil)
	tell("Filter", 4, l, err)
	l, err = query.Project(cut, exprs(at(0), at(0), lit(values[0])))
	tell("Project", 4, l, err)
	l, err = query.Gather(cut, 0, exprs(at(0), at(0), op(minOf, at(0)), op(maxOf, at(0)), lit(values[0])))
	tell("Gather", 3, l, err)
	l, err = query.Sort(cut, nil, -1)
	tell("Sort", 4, l, err)
	l, err = query.Sort(cut, orders(falling(1)), 3)
	tell("Sort, falling", 3, l, err)
	l, err = query.Select(selects(at(0), at(1), at(0)), cut, nil)
	tell("Select", 4, l, err)
	if slices.ContainsFunc(values, func(v api.Value) bool { return !strings.HasPrefix(v.Text, "text ") }) {
		t.Error("what was given is changed")
	}
}

// What is written into an answer is not seen in what was given, nor in another answer.
func TestP105AnswersAreTheCallersOwn(t *testing.T) {
	for i, a := range asks() {
		was := shown(a)
		first, _ := a.calls()
		want := shown(first[:])
		for _, l := range first {
			l = l[:cap(l)]
			for j := range l {
				l[j] = l[j][:cap(l[j])]
				for k := range l[j] {
					l[j][k] = text("spoilt")
				}
				l[j] = nil
			}
		}
		if again, _ := a.calls(); shown(again[:]) != want || shown(a) != was {
			t.Fatalf("ask %d: what was written into its answer is seen", i)
		}
	}
}

// emptied is a thing whose empty lists are not nil, and emptied the other way round are nil.
func emptied(v reflect.Value, not bool) reflect.Value {
	w := roomy(v)
	switch v.Kind() {
	case reflect.Slice:
		if v.Len() == 0 {
			w = reflect.Zero(v.Type())
			if not {
				w = reflect.MakeSlice(v.Type(), 0, 0)
			}
		}
		for i := range v.Len() {
			w.Index(i).Set(emptied(v.Index(i), not))
		}
	case reflect.Struct:
		for i := range v.NumField() {
			w.Field(i).Set(emptied(v.Field(i), not))
		}
	}
	return w
}

// Nil and empty lists are one.
func TestP105EmptyListsAreNone(t *testing.T) {
	for i, a := range asks() {
		first, e := emptied(reflect.ValueOf(a), true).Interface().(Ask).calls()
		second, f := emptied(reflect.ValueOf(a), false).Interface().(Ask).calls()
		for call := range first {
			if !same(first[call], second[call]) || e[call] != f[call] {
				t.Errorf("ask %d, call %d: %v, %d with empty lists, %v, %d with nil", i, call, first[call], e[call], second[call], f[call])
			}
		}
	}
}

// What was asked ahead does not matter, nor what is asked side by side.
func TestP105NothingIsKept(t *testing.T) {
	l := asks()
	tell := func() string {
		var tell strings.Builder
		for _, a := range l {
			fmt.Fprintln(&tell, fmt.Sprint(a.calls()))
		}
		return tell.String()
	}
	want := tell()
	done := make(chan string)
	for range 8 {
		go func() { done <- tell() }()
	}
	for range 8 {
		if <-done != want {
			t.Error("told otherwise")
		}
	}
}
