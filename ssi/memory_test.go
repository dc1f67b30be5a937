package ssi_test

import (
	"fmt"
	"reflect"
	"slices"
	"strings"
	"testing"
	"unsafe"

	"switchback/api"
	"switchback/ssi"
)

// A piece of memory: where it begins and ends.
type piece struct {
	from, to uintptr
}

// pieces puts what a thing holds: its lists, as far as they have room, and its texts.
func pieces(v reflect.Value, l []piece) []piece {
	switch v.Kind() {
	case reflect.String:
		s := v.String()
		if s != "" {
			from := uintptr(unsafe.Pointer(unsafe.StringData(s)))
			l = append(l, piece{from, from + uintptr(len(s))})
		}
	case reflect.Slice:
		if v.Cap() > 0 {
			l = append(l, piece{v.Pointer(), v.Pointer() + uintptr(v.Cap())*v.Type().Elem().Size()})
		}
		for i := range v.Len() {
			l = pieces(v.Index(i), l)
		}
	case reflect.Struct:
		for i := range v.NumField() {
			l = pieces(v.Field(i), l)
		}
	}
	return l
}

// apart tells whether no two parts of an answer meet, and nothing of it anything of the others.
func apart(t *testing.T, what string, answer any, others ...any) {
	t.Helper()
	type owned struct {
		piece
		answers bool
	}
	var l []owned
	for _, p := range pieces(reflect.ValueOf(answer), nil) {
		l = append(l, owned{p, true})
	}
	for _, x := range others {
		for _, p := range pieces(reflect.ValueOf(x), nil) {
			l = append(l, owned{p, false})
		}
	}
	slices.SortFunc(l, func(p, q owned) int {
		if p.from < q.from {
			return -1
		}
		return min(1, int(p.from-q.from))
	})
	// Of all ahead, and of the answer's ahead: how far they go.
	var all, own uintptr
	for _, p := range l {
		if p.answers && p.from < all || p.from < own {
			t.Fatalf("%s: an answer shares memory with what was given, with another answer or with another part of it", what)
		}
		all = max(all, p.to)
		if p.answers {
			own = max(own, p.to)
		}
	}
}

// roomy is a thing in memory of its own, whose lists have room behind their ends, into which nothing may be written.
func roomy(v reflect.Value) reflect.Value {
	w := reflect.New(v.Type()).Elem()
	switch v.Kind() {
	case reflect.String:
		w.SetString(strings.Clone(v.String()))
	case reflect.Slice:
		w.Set(reflect.MakeSlice(v.Type(), v.Len(), v.Len()+3))
		for i := range v.Len() {
			w.Index(i).Set(roomy(v.Index(i)))
		}
	case reflect.Struct:
		for i := range v.NumField() {
			w.Field(i).Set(roomy(v.Field(i)))
		}
	default:
		w.Set(v)
	}
	return w
}

func given[T any](x T) T {
	return roomy(reflect.ValueOf(x)).Interface().(T)
}

// stretched shows a thing with all the room that its lists have.
func stretched(v reflect.Value) string {
	var s strings.Builder
	switch v.Kind() {
	case reflect.Slice:
		for i := range v.Cap() {
			s.WriteString(stretched(v.Slice(0, v.Cap()).Index(i)) + ",")
		}
		return "[" + s.String() + "]"
	case reflect.Struct:
		for i := range v.NumField() {
			s.WriteString(stretched(v.Field(i)) + ";")
		}
		return "{" + s.String() + "}"
	}
	return fmt.Sprintf("%#v", v.Interface())
}

func shown(x any) string {
	return stretched(reflect.ValueOf(x))
}

// Told is all that the calls tell of a state.
type Told struct {
	New       ssi.State
	Begun     ssi.State
	ID        int
	Edged     ssi.State
	Gone      []int
	Committed ssi.State
	Stamp     int
	Aborted   ssi.State
	Horizon   int
	Retired   ssi.State
	Went      []int
	Errors    [7]api.Errno
}

// An Ask is what calls are given.
type Ask struct {
	State          ssi.State
	Reader, Writer int
}

func tell(a Ask) Told {
	x := Told{New: ssi.New()}
	x.Errors[0] = ssi.Check(a.State)
	x.Begun, x.ID, x.Errors[1] = ssi.Begin(a.State)
	x.Edged, x.Gone, x.Errors[2] = ssi.Edge(a.State, a.Reader, a.Writer)
	x.Committed, x.Stamp, x.Errors[3] = ssi.Commit(a.State, a.Reader)
	x.Aborted, x.Errors[4] = ssi.Abort(a.State, a.Reader)
	x.Horizon, x.Errors[5] = ssi.Horizon(a.State)
	x.Retired, x.Went, x.Errors[6] = ssi.Retire(a.State)
	return x
}

// asks are calls of states that may be, and of some that may not.
func asks() []Ask {
	next := rolled(175)
	l := []Ask{{}, {ssi.New(), 1, 1}, {of(9, 9), 1, 2}, {of(0, 2, txn(1, 0, 0, "")), 1, 1}, {of(0, 2, txn(1, 0, -1, "")), 1, 1}, {mixed(), 4, 6}}
	for i := range 3000 {
		s := rolledState(next)
		if i%8 == 7 {
			s = bend(next, s)
		}
		l = append(l, given(Ask{s, someID(next, s), someID(next, s)}))
	}
	return l
}

func TestP174AnswersAreNewMemory(t *testing.T) {
	told := [7]int{}
	for i, a := range asks() {
		was := shown(a)
		first, second := tell(a), tell(a)
		if shown(a) != was {
			t.Fatalf("ask %d: what was given is changed", i)
		}
		if fmt.Sprint(first) != fmt.Sprint(second) {
			t.Fatalf("ask %d: told otherwise once more", i)
		}
		what := fmt.Sprint("ask ", i)
		apart(t, what, first, a, second)
		apart(t, what, second, a, first)
		for call, err := range first.Errors {
			if err == api.OK {
				told[call]++
			}
		}
	}
	for call, n := range told {
		if n < 300 {
			t.Error("of call", call, "just", n)
		}
	}
}

// What is handed out is its owner's: what he writes there, or behind its end, is not seen elsewhere; also where the state is told as it was.
func TestP174AnswersAreTheCallersOwn(t *testing.T) {
	s := given(mixed())
	was := shown(s)
	for i, call := range []func() (ssi.State, []int, api.Errno){
		func() (ssi.State, []int, api.Errno) { next, n, err := ssi.Begin(s); return next, []int{n}, err },
		func() (ssi.State, []int, api.Errno) { next, n, err := ssi.Commit(s, 2); return next, []int{n}, err },
		func() (ssi.State, []int, api.Errno) { next, err := ssi.Abort(s, 11); return next, []int{0}, err },
		func() (ssi.State, []int, api.Errno) { return ssi.Edge(s, 2, 2) },
		func() (ssi.State, []int, api.Errno) { return ssi.Edge(s, 11, 3) },
		func() (ssi.State, []int, api.Errno) { return ssi.Edge(s, 2, 5) },
		func() (ssi.State, []int, api.Errno) { return ssi.Edge(s, 2, 11) },
		func() (ssi.State, []int, api.Errno) { return ssi.Edge(s, 4, 6) },
		func() (ssi.State, []int, api.Errno) { return ssi.Edge(s, 8, 2) },
		func() (ssi.State, []int, api.Errno) { return ssi.Edge(s, 2, 12) },
		func() (ssi.State, []int, api.Errno) { return ssi.Retire(s) },
		func() (ssi.State, []int, api.Errno) {
			return ssi.Retire(of(s.Clock, s.Next, s.Txns[0], s.Txns[2], s.Txns[4]))
		},
	} {
		first, n, err := call()
		want := fmt.Sprint(first, n)
		if len(first.Txns) == 0 || err != api.OK {
			t.Error("call", i, "told", first, err)
		}
		clear(first.Txns[:cap(first.Txns)])
		clear(n[:cap(n)])
		if second, m, err := call(); err != api.OK || fmt.Sprint(second, m) != want || shown(s) != was {
			t.Error("call", i, "told otherwise:", second, m, err)
		}
	}
}

// emptied is a thing whose empty lists are none, or not.
func emptied(v reflect.Value, not bool) reflect.Value {
	w := reflect.New(v.Type()).Elem()
	w.Set(v)
	switch v.Kind() {
	case reflect.Slice:
		w.SetZero()
		if v.Len() > 0 || not {
			w.Set(reflect.MakeSlice(v.Type(), v.Len(), v.Len()))
		}
		for i := range v.Len() {
			w.Index(i).Set(emptied(v.Index(i), not))
		}
	case reflect.Struct:
		for i := range v.NumField() {
			w.Field(i).Set(emptied(v.Field(i), not))
		}
	}
	return w
}

// Nil and empty lists are one.
func TestP174EmptyListsAreNone(t *testing.T) {
	for i, a := range asks()[:6] {
		x := tell(emptied(reflect.ValueOf(a), false).Interface().(Ask))
		y := tell(emptied(reflect.ValueOf(a), true).Interface().(Ask))
		if fmt.Sprint(x) != fmt.Sprint(y) {
			t.Errorf("ask %d: nil and empty are told apart: %+v, %+v", i, x, y)
		}
	}
}

// What was asked ahead does not matter, nor what is asked side by side.
func TestP174NothingIsKept(t *testing.T) {
	l := asks()
	all := func() string {
		var s strings.Builder
		for _, a := range l {
			fmt.Fprint(&s, tell(a), ";")
		}
		return s.String()
	}
	want := all()
	done := make(chan string)
	for range 4 {
		go func() { done <- all() }()
	}
	for range 4 {
		if <-done != want {
			t.Error("told otherwise")
		}
	}
}
