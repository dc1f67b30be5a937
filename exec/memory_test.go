package exec_test

import (
	"fmt"
	"reflect"
	"slices"
	"strings"
	"testing"
	"unsafe"

	"switchback/api"
	"switchback/btree"
	"switchback/catalog"
	"switchback/exec"
	"switchback/plan"
)

// A piece of memory: where it begins and ends.
type piece struct {
	from, to uintptr
}

// pieces puts what a thing holds: its lists, as far as they have room, and its texts.
func pieces(v reflect.Value, l []piece) []piece {
	switch v.Kind() {
	case reflect.String:
		s := v.String()
		if s != "" {
			from := uintptr(unsafe.Pointer(unsafe.StringData(s)))
			l = append(l, piece{from, from + uintptr(len(s))})
		}
	case reflect.Slice:
		if v.Cap() > 0 {
			l = append(l, piece{v.Pointer(), v.Pointer() + uintptr(v.Cap())*v.Type().Elem().Size()})
		}
		for i := range v.Len() {
			l = pieces(v.Index(i), l)
		}
	case reflect.Struct:
		for i := range v.NumField() {
			l = pieces(v.Field(i), l)
		}
	}
	return l
}

// apart tells whether no two parts of an answer meet, and nothing of it anything of the others.
func apart(t *testing.T, what string, answer any, others ...any) {
	t.Helper()
	type owned struct {
		piece
		answers bool
	}
	var l []owned
	for _, p := range pieces(reflect.ValueOf(answer), nil) {
		l = append(l, owned{p, true})
	}
	for _, x := range others {
		for _, p := range pieces(reflect.ValueOf(x), nil) {
			l = append(l, owned{p, false})
		}
	}
	slices.SortFunc(l, func(p, q owned) int {
		if p.from < q.from {
			return -1
		}
		return min(1, int(p.from-q.from))
	})
	// Of all ahead, and of the answer's ahead: how far they go.
	var all, own uintptr
	for _, p := range l {
		if p.answers && p.from < all || p.from < own {
			t.Fatalf("%s: an answer shares memory with what was given, with another answer or with another part of it", what)
		}
		all = max(all, p.to)
		if p.answers {
			own = max(own, p.to)
		}
	}
}

// roomy is a thing in memory of its own, whose lists have room behind their ends, into which nothing may be written.
func roomy(v reflect.Value) reflect.Value {
	w := reflect.New(v.Type()).Elem()
	switch v.Kind() {
	case reflect.String:
		w.SetString(strings.Clone(v.String()))
	case reflect.Slice:
		w.Set(reflect.MakeSlice(v.Type(), v.Len(), v.Len()+3))
		for i := range v.Len() {
			w.Index(i).Set(roomy(v.Index(i)))
		}
	case reflect.Struct:
		for i := range v.NumField() {
			w.Field(i).Set(roomy(v.Field(i)))
		}
	default:
		w.Set(v)
	}
	return w
}

func given[T any](x T) T {
	return roomy(reflect.ValueOf(x)).Interface().(T)
}

// stretched shows a thing with all the room that its lists have.
func stretched(v reflect.Value) string {
	var s strings.Builder
	switch v.Kind() {
	case reflect.Slice:
		for i := range v.Cap() {
			s.WriteString(stretched(v.Slice(0, v.Cap()).Index(i)) + ",")
		}
		return "[" + s.String() + "]"
	case reflect.Struct:
		for i := range v.NumField() {
			s.WriteString(stretched(v.Field(i)) + ";")
		}
		return "{" + s.String() + "}"
	}
	return fmt.Sprintf("%#v", v.Interface())
}

func shown(x any) string {
	return stretched(reflect.ValueOf(x))
}

// Told is all that the calls tell of a store.
type Told struct {
	New      exec.Store
	Inserted exec.Store
	Deleted  exec.Store
	Indexed  exec.Store
	Rows     [][]api.Value
	Scanned  [][]api.Value
	Found    [][]api.Value
	Errors   [8]api.Errno
}

// An Ask is what calls are given.
type Ask struct {
	Store  exec.Store
	Rows   [][]api.Value
	Keys   []api.Value
	Plan   plan.Plan
	Where  []api.Expr
	Name   string
	Column int
}

func tell(a Ask) Told {
	var x Told
	x.Errors[0] = exec.Check(a.Store)
	x.New, x.Errors[1] = exec.New(a.Store.Table)
	x.Rows, x.Errors[2] = exec.Rows(a.Store)
	x.Inserted, x.Errors[3] = exec.Insert(a.Store, a.Rows)
	x.Deleted, x.Errors[4] = exec.Delete(a.Store, a.Keys)
	x.Scanned, x.Errors[5] = exec.Scan(a.Store, a.Plan)
	x.Found, x.Errors[6] = exec.Where(a.Store, a.Where)
	x.Indexed, x.Errors[7] = exec.Index(a.Store, a.Name, a.Column)
	return x
}

// asks are calls of stores that may be, and of some that may not.
func asks(t *testing.T) []Ask {
	t.Helper()
	r := roller{rolled(144)}
	bounds := []plan.Bound{open, in(num(0)), out(num(1)), in(text("a")), out(text("a")), in(truth(0)), in(api.Value{Kind: 3, Text: strings.Repeat("long", 17)})}
	var l []Ask
	for i := range 1200 {
		x := r.table()
		there := r.rows(x)
		a := Ask{Store: laid(t, x, there), Plan: plan.Plan{Index: r.next(7) - 2, Low: bounds[r.next(7)], High: bounds[r.next(7)], Empty: r.next(9) == 0}}
		if i%10 == 9 {
			a.Store = r.bent(t, a.Store, there)
		}
		for range r.next(3) {
			a.Rows = append(a.Rows, r.row(x))
			if len(there) > 0 {
				a.Keys = append(a.Keys, there[r.next(len(there))][x.Key])
			}
		}
		if r.next(5) > 0 {
			a.Where = []api.Expr{r.resolved(x, r.condition(x, r.next(3)))}
		}
		a.Name, a.Column = []string{"i", "j", "new", "a_new_one", "New"}[r.next(5)], r.next(6)-1
		l = append(l, given(a))
	}
	for _, n := range []int{0, 1, 5, 40} {
		for _, columns := range fewer() {
			a := Ask{Store: laid(t, table(columns...), numbered(n)), Plan: span(min(len(columns), 1), open, open), Where: where(t, "a >= 't1'"), Name: "new"}
			if n == 40 {
				a.Rows, a.Keys = []row{{text("a text"), num(-1), null, null}}, []api.Value{num(9), num(3)}
			}
			l = append(l, given(a))
		}
	}
	return l
}

func TestP144AnswersAreNewMemory(t *testing.T) {
	told := [8]int{}
	for i, a := range asks(t) {
		was := shown(a)
		first, second := tell(a), tell(a)
		if shown(a) != was {
			t.Fatalf("ask %d: what was given is changed", i)
		}
		if fmt.Sprint(first) != fmt.Sprint(second) {
			t.Fatalf("ask %d: told otherwise once more", i)
		}
		what := fmt.Sprint("ask ", i)
		apart(t, what, first, a, second)
		apart(t, what, second, a, first)
		for call, err := range first.Errors {
			if err == api.OK {
				told[call]++
			}
		}
	}
	for call, n := range told {
		if n < 200 {
			t.Error("of call", call, "just", n)
		}
	}
}

// Also where one text, one row, one list or one tree is handed in at several places.
func TestP144WhatIsSharedByArguments(t *testing.T) {
	v := given(text("a text"))
	x := catalog.Table{Name: "t", Columns: []api.Column{{Name: "t", Kind: 3, NotNull: true}, {Name: "u", Kind: 3}}, Indexes: []catalog.Index{{Name: "t"}, {Name: "u"}}}
	s, err := exec.New(x)
	if err != api.OK {
		t.Fatal(err)
	}
	apart(t, "New", s, x)
	both := row{v, v}
	l := []row{both, both}
	if next, err := exec.Insert(s, l); !isNone(next) || err != api.ErrKey {
		t.Error("Insert of one row twice:", err)
	}
	s, err = exec.Insert(s, l[:1])
	stands(t, "Insert", s, err, x, []row{{v, v}})
	apart(t, "Insert", s, l, x)
	// Both side trees are one.
	s.Side[1] = s.Side[0]
	twice, err := exec.Insert(s, nil)
	stands(t, "Insert of none", twice, err, x, []row{{v, v}})
	apart(t, "Insert of none", twice, s, l)
	gone, err := exec.Delete(s, both[:1])
	stands(t, "Delete", gone, err, x, nil)
	apart(t, "Delete", gone, s, both)
	same, err := exec.Delete(s, nil)
	stands(t, "Delete of none", same, err, x, []row{{v, v}})
	apart(t, "Delete of none", same, s)
	more, err := exec.Index(s, x.Columns[0].Name+"x", 1)
	apart(t, "Index", more, s, x)
	name := given("named")
	more, err = exec.Index(s, name, 1)
	if err != api.OK || more.Table.Indexes[2].Name != "named" {
		t.Error("Index:", err)
	}
	apart(t, "Index", more, name, s, x)
	found, err := exec.Scan(s, span(1, in(v), in(v)))
	if err != api.OK || !sameRows(found, l[:1]) {
		t.Error("Scan:", found, err)
	}
	apart(t, "Scan", found, s, v)
	e := op(8, col(0), lit(v))
	found, err = exec.Where(s, []api.Expr{op(14, e, e)})
	if err != api.OK || !sameRows(found, l[:1]) {
		t.Error("Where:", found, err)
	}
	apart(t, "Where", found, s, v, e)
}

// What is handed out is its owner's: what he writes there is not seen elsewhere.
func TestP144AnswersAreTheCallersOwn(t *testing.T) {
	s := laid(t, table(0, 3), someRows())
	was := shown(s)
	for _, call := range []func() ([]row, api.Errno){
		func() ([]row, api.Errno) { return exec.Rows(s) },
		func() ([]row, api.Errno) { return exec.Scan(s, span(-1, open, open)) },
		func() ([]row, api.Errno) { return exec.Scan(s, span(0, open, open)) },
		func() ([]row, api.Errno) { return exec.Scan(s, span(2, in(null), open)) },
		func() ([]row, api.Errno) { return exec.Where(s, nil) },
		func() ([]row, api.Errno) { return exec.Where(s, where(t, "a = 'x'")) },
	} {
		first, _ := call()
		want := fmt.Sprint(first)
		for _, r := range first {
			clear(r)
		}
		clear(first)
		if second, err := call(); err != api.OK || fmt.Sprint(second) != want || shown(s) != was {
			t.Error("told otherwise:", second, err)
		}
	}
}

// emptied is a thing whose empty lists are none, or not.
func emptied(v reflect.Value, not bool) reflect.Value {
	w := reflect.New(v.Type()).Elem()
	w.Set(v)
	switch v.Kind() {
	case reflect.Slice:
		w.SetZero()
		if v.Len() > 0 || not {
			w.Set(reflect.MakeSlice(v.Type(), v.Len(), v.Len()))
		}
		for i := range v.Len() {
			w.Index(i).Set(emptied(v.Index(i), not))
		}
	case reflect.Struct:
		for i := range v.NumField() {
			w.Field(i).Set(emptied(v.Field(i), not))
		}
	}
	return w
}

// Nil and empty lists are one.
func TestP144EmptyListsAreNone(t *testing.T) {
	l := asks(t)
	l = append(l, Ask{Store: exec.Store{Table: table(), Main: btree.New()}}, Ask{Store: exec.Store{Table: table(), Main: btree.State{}}}, Ask{Rows: []row{nil}})
	for i, a := range l {
		x := tell(emptied(reflect.ValueOf(a), false).Interface().(Ask))
		y := tell(emptied(reflect.ValueOf(a), true).Interface().(Ask))
		if fmt.Sprint(x) != fmt.Sprint(y) {
			t.Errorf("ask %d: nil and empty are told apart: %+v, %+v", i, x, y)
		}
	}
}

// What was asked ahead does not matter, nor what is asked side by side.
func TestP144NothingIsKept(t *testing.T) {
	l := asks(t)
	all := func() string {
		var s strings.Builder
		for _, a := range l {
			fmt.Fprint(&s, tell(a), ";")
		}
		return s.String()
	}
	want := all()
	done := make(chan string)
	for range 4 {
		go func() { done <- all() }()
	}
	for range 4 {
		if <-done != want {
			t.Error("told otherwise")
		}
	}
}
