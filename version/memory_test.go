package version_test

import (
	"fmt"
	"reflect"
	"slices"
	"strings"
	"testing"
	"unsafe"

	"switchback/api"
	"switchback/version"
)

// A piece of memory: where it begins and ends.
type piece struct {
	from, to uintptr
}

// pieces puts what a thing holds: its lists, as far as they have room, and its texts.
func pieces(v reflect.Value, l []piece) []piece {
	switch v.Kind() {
	case reflect.String:
		s := v.String()
		if s != "" {
			from := uintptr(unsafe.Pointer(unsafe.StringData(s)))
			l = append(l, piece{from, from + uintptr(len(s))})
		}
	case reflect.Slice:
		if v.Cap() > 0 {
			l = append(l, piece{v.Pointer(), v.Pointer() + uintptr(v.Cap())*v.Type().Elem().Size()})
		}
		for i := range v.Len() {
			l = pieces(v.Index(i), l)
		}
	case reflect.Struct:
		for i := range v.NumField() {
			l = pieces(v.Field(i), l)
		}
	}
	return l
}

// apart tells whether no two parts of an answer meet, and nothing of it anything of the others.
func apart(t *testing.T, what string, answer any, others ...any) {
	t.Helper()
	type owned struct {
		piece
		answers bool
	}
	var l []owned
	for _, p := range pieces(reflect.ValueOf(answer), nil) {
		l = append(l, owned{p, true})
	}
	for _, x := range others {
		for _, p := range pieces(reflect.ValueOf(x), nil) {
			l = append(l, owned{p, false})
		}
	}
	slices.SortFunc(l, func(p, q owned) int {
		if p.from < q.from {
			return -1
		}
		return min(1, int(p.from-q.from))
	})
	// Of all ahead, and of the answer's ahead: how far they go.
	var all, own uintptr
	for _, p := range l {
		if p.answers && p.from < all || p.from < own {
			t.Fatalf("%s: an answer shares memory with what was given, with another answer or with another part of it", what)
		}
		all = max(all, p.to)
		if p.answers {
			own = max(own, p.to)
		}
	}
}

// roomy is a thing in memory of its own, whose lists have room behind their ends, into which nothing may be written.
func roomy(v reflect.Value) reflect.Value {
	w := reflect.New(v.Type()).Elem()
	switch v.Kind() {
	case reflect.String:
		w.SetString(strings.Clone(v.String()))
	case reflect.Slice:
		w.Set(reflect.MakeSlice(v.Type(), v.Len(), v.Len()+3))
		for i := range v.Len() {
			w.Index(i).Set(roomy(v.Index(i)))
		}
	case reflect.Struct:
		for i := range v.NumField() {
			w.Field(i).Set(roomy(v.Field(i)))
		}
	default:
		w.Set(v)
	}
	return w
}

func given[T any](x T) T {
	return roomy(reflect.ValueOf(x)).Interface().(T)
}

// stretched shows a thing with all the room that its lists have.
func stretched(v reflect.Value) string {
	var s strings.Builder
	switch v.Kind() {
	case reflect.Slice:
		for i := range v.Cap() {
			s.WriteString(stretched(v.Slice(0, v.Cap()).Index(i)) + ",")
		}
		return "[" + s.String() + "]"
	case reflect.Struct:
		for i := range v.NumField() {
			s.WriteString(stretched(v.Field(i)) + ";")
		}
		return "{" + s.String() + "}"
	}
	return fmt.Sprintf("%#v", v.Interface())
}

func shown(x any) string {
	return stretched(reflect.ValueOf(x))
}

// Told is all that the calls tell of a chain.
type Told struct {
	Value     string
	Is        bool
	Stamp     int
	Written   chain
	Committed chain
	Undone    chain
	Pruned    chain
	Errors    [6]api.Errno
}

// An Ask is what calls are given.
type Ask struct {
	Chain            chain
	Snap, Txn, Stamp int
	Gone             bool
	Value            string
}

func tell(a Ask) Told {
	var x Told
	x.Errors[0] = version.Check(a.Chain)
	x.Value, x.Is, x.Stamp, x.Errors[1] = version.See(a.Chain, a.Snap, a.Txn)
	x.Written, x.Errors[2] = version.Write(a.Chain, a.Snap, a.Txn, a.Gone, a.Value)
	x.Committed, x.Errors[3] = version.Commit(a.Chain, a.Txn, a.Stamp)
	x.Undone, x.Errors[4] = version.Undo(a.Chain, a.Txn)
	x.Pruned, x.Errors[5] = version.Prune(a.Chain, a.Snap)
	return x
}

// asks are calls of chains that may be, and of some that may not.
func asks() []Ask {
	next := rolled(155)
	l := []Ask{{}, {Txn: 1}, {Txn: 1, Value: "alone"}, {Txn: 1, Gone: true}}
	for i := range 2400 {
		of := rolledChain(next)
		if i%8 == 7 {
			of = bend(next, of)
		}
		some := of[next(len(of))]
		a := Ask{Chain: of, Snap: some.Stamp, Txn: of[0].Txn, Stamp: most, Gone: next(3) == 0}
		if next(3) == 0 {
			a.Snap = of[0].Stamp
		}
		if !a.Gone {
			a.Value = octets(next(9))
		}
		l = append(l, given(a))
	}
	return l
}

func TestP155AnswersAreNewMemory(t *testing.T) {
	told := [6]int{}
	for i, a := range asks() {
		was := shown(a)
		first, second := tell(a), tell(a)
		if shown(a) != was {
			t.Fatalf("ask %d: what was given is changed", i)
		}
		if fmt.Sprint(first) != fmt.Sprint(second) {
			t.Fatalf("ask %d: told otherwise once more", i)
		}
		what := fmt.Sprint("ask ", i)
		apart(t, what, first, a, second)
		apart(t, what, second, a, first)
		for call, err := range first.Errors {
			if err == api.OK {
				told[call]++
			}
		}
	}
	for call, n := range told {
		if n < 300 {
			t.Error("of call", call, "just", n)
		}
	}
}

// Also where one text is handed in at several places, and where texts have but one octet, or none.
func TestP155WhatIsSharedByArguments(t *testing.T) {
	for _, value := range []string{"", "v", "a text"} {
		value = given(value)
		l := chain{was(0, 2, value), was(5, 1, value), was(3, 2, value)}
		v, is, _, err := version.See(l, 9, 2)
		if v != value || !is || err != api.OK {
			t.Error("See:", v, is, err)
		}
		apart(t, "See", v, l)
		w, _, _, _ := version.See(l, 9, 2)
		apart(t, "See", v, w, l)
		next, err := version.Write(l, 9, 2, false, value)
		tells(t, "Write", next, err, l)
		apart(t, "Write over its own", next, l, value)
		next, err = version.Write(l[1:], 9, 2, false, value)
		tells(t, "Write", next, err, l)
		apart(t, "Write", next, l, value)
		next, err = version.Write(nil, 9, 2, false, value)
		tells(t, "Write of none", next, err, l[:1])
		apart(t, "Write of none", next, value)
		next, err = version.Commit(l, 2, 6)
		tells(t, "Commit", next, err, chain{was(6, 2, value), l[1], l[2]})
		apart(t, "Commit", next, l)
		for txn := 1; txn <= 2; txn++ {
			next, err = version.Undo(l, txn)
			tells(t, "Undo", next, err, l[txn-1:])
			apart(t, "Undo", next, l)
		}
		for horizon, left := range map[int]int{2: 3, 3: 3, 5: 2} {
			next, err = version.Prune(l, horizon)
			tells(t, "Prune", next, err, l[:left])
			apart(t, "Prune", next, l)
		}
	}
}

// What is handed out is its owner's: what he writes there, or behind its end, is not seen elsewhere.
func TestP155AnswersAreTheCallersOwn(t *testing.T) {
	l := given(chain{was(0, 2, "new"), was(5, 1, "b"), gone(3, 2), was(2, 1, "a")})
	was := shown(l)
	for i, call := range []func() (chain, api.Errno){
		func() (chain, api.Errno) { return version.Write(l, 9, 2, false, "w") },
		func() (chain, api.Errno) { return version.Write(l[1:3], 9, 7, true, "") },
		func() (chain, api.Errno) { return version.Commit(l, 2, 6) },
		func() (chain, api.Errno) { return version.Undo(l, 2) },
		func() (chain, api.Errno) { return version.Undo(l[:3], 1) },
		func() (chain, api.Errno) { return version.Prune(l, 0) },
		func() (chain, api.Errno) { return version.Prune(l, 2) },
		func() (chain, api.Errno) { return version.Prune(l, 3) },
		func() (chain, api.Errno) { return version.Prune(l[1:], 5) },
	} {
		first, err := call()
		want := fmt.Sprint(first)
		if len(first) == 0 || err != api.OK {
			t.Error("call", i, "told", first, err)
		}
		clear(first)
		clear(first[:cap(first)])
		if second, err := call(); err != api.OK || fmt.Sprint(second) != want || shown(l) != was {
			t.Error("call", i, "told otherwise:", second, err)
		}
	}
}

// emptied is a thing whose empty lists are none, or not.
func emptied(v reflect.Value, not bool) reflect.Value {
	w := reflect.New(v.Type()).Elem()
	w.Set(v)
	switch v.Kind() {
	case reflect.Slice:
		w.SetZero()
		if v.Len() > 0 || not {
			w.Set(reflect.MakeSlice(v.Type(), v.Len(), v.Len()))
		}
		for i := range v.Len() {
			w.Index(i).Set(emptied(v.Index(i), not))
		}
	case reflect.Struct:
		for i := range v.NumField() {
			w.Field(i).Set(emptied(v.Field(i), not))
		}
	}
	return w
}

// Nil and empty lists are one.
func TestP155EmptyListsAreNone(t *testing.T) {
	for i, a := range asks()[:4] {
		x := tell(emptied(reflect.ValueOf(a), false).Interface().(Ask))
		y := tell(emptied(reflect.ValueOf(a), true).Interface().(Ask))
		if fmt.Sprint(x) != fmt.Sprint(y) {
			t.Errorf("ask %d: nil and empty are told apart: %+v, %+v", i, x, y)
		}
	}
}

// What was asked ahead does not matter, nor what is asked side by side.
func TestP155NothingIsKept(t *testing.T) {
	l := asks()
	all := func() string {
		var s strings.Builder
		for _, a := range l {
			fmt.Fprint(&s, tell(a), ";")
		}
		return s.String()
	}
	want := all()
	done := make(chan string)
	for range 4 {
		go func() { done <- all() }()
	}
	for range 4 {
		if <-done != want {
			t.Error("told otherwise")
		}
	}
}
