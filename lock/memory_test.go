package lock_test

import (
	"fmt"
	"reflect"
	"slices"
	"strings"
	"testing"
	"unsafe"

	"switchback/api"
	"switchback/lock"
)

// A piece of memory: where it begins and ends.
type piece struct {
	from, to uintptr
}

// pieces puts what a thing holds: its lists, as far as they have room, and its texts.
func pieces(v reflect.Value, l []piece) []piece {
	switch v.Kind() {
	case reflect.String:
		s := v.String()
		if s != "" {
			from := uintptr(unsafe.Pointer(unsafe.StringData(s)))
			l = append(l, piece{from, from + uintptr(len(s))})
		}
	case reflect.Slice:
		if v.Cap() > 0 {
			l = append(l, piece{v.Pointer(), v.Pointer() + uintptr(v.Cap())*v.Type().Elem().Size()})
		}
		for i := range v.Len() {
			l = pieces(v.Index(i), l)
		}
	case reflect.Struct:
		for i := range v.NumField() {
			l = pieces(v.Field(i), l)
		}
	}
	return l
}

// apart tells whether no two parts of an answer meet, and nothing of it anything of the others.
func apart(t *testing.T, what string, answer any, others ...any) {
	t.Helper()
	type owned struct {
		piece
		answers bool
	}
	var l []owned
	for _, p := range pieces(reflect.ValueOf(answer), nil) {
		l = append(l, owned{p, true})
	}
	for _, x := range others {
		for _, p := range pieces(reflect.ValueOf(x), nil) {
			l = append(l, owned{p, false})
		}
	}
	slices.SortFunc(l, func(p, q owned) int {
		if p.from < q.from {
			return -1
		}
		return min(1, int(p.from-q.from))
	})
	// Of all ahead, and of the answer's ahead: how far they go.
	var all, own uintptr
	for _, p := range l {
		if p.answers && p.from < all || p.from < own {
			t.Fatalf("%s: an answer shares memory with what was given, with another answer or with another part of it", what)
		}
		all = max(all, p.to)
		if p.answers {
			own = max(own, p.to)
		}
	}
}

// roomy is a thing in memory of its own, whose lists have room behind their ends, into which nothing may be written.
func roomy(v reflect.Value) reflect.Value {
	w := reflect.New(v.Type()).Elem()
	switch v.Kind() {
	case reflect.String:
		w.SetString(strings.Clone(v.String()))
	case reflect.Slice:
		w.Set(reflect.MakeSlice(v.Type(), v.Len(), v.Len()+3))
		for i := range v.Len() {
			w.Index(i).Set(roomy(v.Index(i)))
		}
	case reflect.Struct:
		for i := range v.NumField() {
			w.Field(i).Set(roomy(v.Field(i)))
		}
	default:
		w.Set(v)
	}
	return w
}

func given[T any](x T) T {
	return roomy(reflect.ValueOf(x)).Interface().(T)
}

// stretched shows a thing with all the room that its lists have.
func stretched(v reflect.Value) string {
	var s strings.Builder
	switch v.Kind() {
	case reflect.Slice:
		for i := range v.Cap() {
			s.WriteString(stretched(v.Slice(0, v.Cap()).Index(i)) + ",")
		}
		return "[" + s.String() + "]"
	case reflect.Struct:
		for i := range v.NumField() {
			s.WriteString(stretched(v.Field(i)) + ";")
		}
		return "{" + s.String() + "}"
	}
	return fmt.Sprintf("%#v", v.Interface())
}

func shown(x any) string {
	return stretched(reflect.ValueOf(x))
}

// Told is all that the calls tell of a state.
type Told struct {
	Added   lock.State
	Read    lock.State
	Readers []int
	Dropped lock.State
	Wider   lock.State
	Errors  [6]api.Errno
}

// An Ask is what calls are given.
type Ask struct {
	State lock.State
	Lock  lock.Lock
	Key   string
	Most  int
}

func tell(a Ask) Told {
	var x Told
	x.Errors[0] = lock.Check(a.State)
	x.Added, x.Errors[1] = lock.Add(a.State, a.Lock)
	x.Read, x.Errors[2] = lock.Read(a.State, a.Lock.Txn, a.Key)
	x.Readers, x.Errors[3] = lock.Readers(a.State, a.Key)
	x.Dropped, x.Errors[4] = lock.Drop(a.State, a.Lock.Txn)
	x.Wider, x.Errors[5] = lock.Widen(a.State, a.Lock.Txn, a.Most)
	return x
}

// asks are calls of states that may be, and of some that may not.
func asks() []Ask {
	next := rolled(165)
	l := []Ask{{}, {Lock: span(1, "a", ""), Most: 1}, {Lock: span(1, "", "c"), Key: "b", Most: 1}, {Lock: span(0, "b", "a")}}
	for i := range 1500 {
		w := rolledLine(next)
		of := w.rolledLocks(next)
		if i%8 == 7 {
			of = w.bend(next, of)
		}
		l = append(l, given(Ask{lock.State{Locks: of}, w.some(next, of), w[next(len(w))], 1 + next(3)}))
	}
	return l
}

func TestP164AnswersAreNewMemory(t *testing.T) {
	told := [6]int{}
	for i, a := range asks() {
		was := shown(a)
		first, second := tell(a), tell(a)
		if shown(a) != was {
			t.Fatalf("ask %d: what was given is changed", i)
		}
		if fmt.Sprint(first) != fmt.Sprint(second) {
			t.Fatalf("ask %d: told otherwise once more", i)
		}
		what := fmt.Sprint("ask ", i)
		apart(t, what, first, a, second)
		apart(t, what, second, a, first)
		for call, err := range first.Errors {
			if err == api.OK {
				told[call]++
			}
		}
	}
	for call, n := range told {
		if n < 300 {
			t.Error("of call", call, "just", n)
		}
	}
}

// Also where one text is handed in at several places, and where texts have but one octet, or none.
func TestP164WhatIsSharedByArguments(t *testing.T) {
	for _, key := range []string{"", "k", "a key"} {
		key = given(key)
		behind := given(key + "\x00")
		l := locks{span(1, key, behind), span(1, behind, ""), span(2, key, behind), span(3, key, "")}
		s := of(l...)
		next, err := lock.Add(s, l[0])
		tells(t, "Add of what is there", next, err, l)
		apart(t, "Add of what is there", next, s)
		next, err = lock.Add(s, span(1, key, ""))
		tells(t, "Add over two", next, err, joined(locks{span(1, key, "")}, l[2:]))
		apart(t, "Add over two", next, s, key)
		next, err = lock.Add(s, span(4, key, behind))
		tells(t, "Add of a new one", next, err, append(locks{}, append(l, span(4, key, behind))...))
		apart(t, "Add of a new one", next, s, key, behind)
		next, err = lock.Add(of(), span(4, key, behind))
		tells(t, "Add to none", next, err, locks{span(4, key, behind)})
		apart(t, "Add to none", next, key, behind)
		next, err = lock.Read(s, 2, behind)
		tells(t, "Read behind", next, err, joined(l[:2], locks{span(2, key, behind+"\x00")}, l[3:]))
		apart(t, "Read behind", next, s, behind)
		next, err = lock.Read(of(), 2, key)
		tells(t, "Read of none", next, err, l[2:3])
		apart(t, "Read of none", next, key)
		next, err = lock.Drop(s, 2)
		tells(t, "Drop", next, err, joined(l[:2], l[3:]))
		apart(t, "Drop", next, s)
		next, err = lock.Drop(s, 9)
		tells(t, "Drop of nobody", next, err, l)
		apart(t, "Drop of nobody", next, s)
		next, err = lock.Widen(s, 1, 1)
		tells(t, "Widen", next, err, joined(locks{span(1, key, "")}, l[2:]))
		apart(t, "Widen", next, s)
		next, err = lock.Widen(s, 1, 2)
		tells(t, "Widen of few", next, err, l)
		apart(t, "Widen of few", next, s)
	}
}

// What is handed out is its owner's: what he writes there, or behind its end, is not seen elsewhere.
func TestP164AnswersAreTheCallersOwn(t *testing.T) {
	s := given(of(span(1, "a", "c"), span(1, "e", "g"), span(2, "b", "f"), span(3, "", "c"), span(3, "d", "")))
	was := shown(s)
	for i, call := range []func() (lock.State, api.Errno){
		func() (lock.State, api.Errno) { return lock.Add(s, span(1, "b", "c")) },
		func() (lock.State, api.Errno) { return lock.Add(s, span(1, "b", "f")) },
		func() (lock.State, api.Errno) { return lock.Add(s, span(2, "x", "")) },
		func() (lock.State, api.Errno) { return lock.Add(s, span(4, "x", "")) },
		func() (lock.State, api.Errno) { return lock.Add(of(s.Locks[:2]...), span(1, "x", "")) },
		func() (lock.State, api.Errno) { return lock.Read(s, 2, "b") },
		func() (lock.State, api.Errno) { return lock.Read(s, 2, "f") },
		func() (lock.State, api.Errno) { return lock.Read(s, 7, "") },
		func() (lock.State, api.Errno) { return lock.Drop(s, 1) },
		func() (lock.State, api.Errno) { return lock.Drop(s, 3) },
		func() (lock.State, api.Errno) { return lock.Drop(s, 4) },
		func() (lock.State, api.Errno) { return lock.Widen(s, 1, 1) },
		func() (lock.State, api.Errno) { return lock.Widen(s, 3, 1) },
		func() (lock.State, api.Errno) { return lock.Widen(s, 2, 1) },
	} {
		first, err := call()
		want := fmt.Sprint(first)
		if len(first.Locks) == 0 || err != api.OK {
			t.Error("call", i, "told", first, err)
		}
		clear(first.Locks[:cap(first.Locks)])
		if second, err := call(); err != api.OK || fmt.Sprint(second) != want || shown(s) != was {
			t.Error("call", i, "told otherwise:", second, err)
		}
	}
	first, _ := lock.Readers(s, "b")
	clear(first[:cap(first)])
	if l, err := lock.Readers(s, "b"); fmt.Sprint(l) != "[1 2 3]" || err != api.OK || shown(s) != was {
		t.Error("Readers told otherwise:", l, err)
	}
}

// emptied is a thing whose empty lists are none, or not.
func emptied(v reflect.Value, not bool) reflect.Value {
	w := reflect.New(v.Type()).Elem()
	w.Set(v)
	switch v.Kind() {
	case reflect.Slice:
		w.SetZero()
		if v.Len() > 0 || not {
			w.Set(reflect.MakeSlice(v.Type(), v.Len(), v.Len()))
		}
		for i := range v.Len() {
			w.Index(i).Set(emptied(v.Index(i), not))
		}
	case reflect.Struct:
		for i := range v.NumField() {
			w.Field(i).Set(emptied(v.Field(i), not))
		}
	}
	return w
}

// Nil and empty lists are one.
func TestP164EmptyListsAreNone(t *testing.T) {
	for i, a := range asks()[:4] {
		x := tell(emptied(reflect.ValueOf(a), false).Interface().(Ask))
		y := tell(emptied(reflect.ValueOf(a), true).Interface().(Ask))
		if fmt.Sprint(x) != fmt.Sprint(y) {
			t.Errorf("ask %d: nil and empty are told apart: %+v, %+v", i, x, y)
		}
	}
}

// What was asked ahead does not matter, nor what is asked side by side.
func TestP164NothingIsKept(t *testing.T) {
	l := asks()
	all := func() string {
		var s strings.Builder
		for _, a := range l {
			fmt.Fprint(&s, tell(a), ";")
		}
		return s.String()
	}
	want := all()
	done := make(chan string)
	for range 4 {
		go func() { done <- all() }()
	}
	for range 4 {
		if <-done != want {
			t.Error("told otherwise")
		}
	}
}
