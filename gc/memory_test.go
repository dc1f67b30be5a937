package gc_test

import (
	"fmt"
	"reflect"
	"slices"
	"strings"
	"testing"
	"unsafe"

	"switchback/api"
	"switchback/gc"
)

// A piece of memory: where it begins and ends.
type piece struct {
	from, to uintptr
}

// pieces puts what a thing holds: its lists, as far as they have room, and its texts.
func pieces(v reflect.Value, l []piece) []piece {
	switch v.Kind() {
	case reflect.String:
		s := v.String()
		if s != "" {
			from := uintptr(unsafe.Pointer(unsafe.StringData(s)))
			l = append(l, piece{from, from + uintptr(len(s))})
		}
	case reflect.Slice:
		if v.Cap() > 0 {
			l = append(l, piece{v.Pointer(), v.Pointer() + uintptr(v.Cap())*v.Type().Elem().Size()})
		}
		for i := range v.Len() {
			l = pieces(v.Index(i), l)
		}
	case reflect.Struct:
		for i := range v.NumField() {
			l = pieces(v.Field(i), l)
		}
	}
	return l
}

// apart tells whether no two parts of an answer meet, and nothing of it anything of the others.
func apart(t *testing.T, what string, answer any, others ...any) {
	t.Helper()
	type owned struct {
		piece
		answers bool
	}
	var l []owned
	for _, p := range pieces(reflect.ValueOf(answer), nil) {
		l = append(l, owned{p, true})
	}
	for _, x := range others {
		for _, p := range pieces(reflect.ValueOf(x), nil) {
			l = append(l, owned{p, false})
		}
	}
	slices.SortFunc(l, func(p, q owned) int {
		if p.from < q.from {
			return -1
		}
		return min(1, int(p.from-q.from))
	})
	// Of all ahead, and of the answer's ahead: how far they go.
	var all, own uintptr
	for _, p := range l {
		if p.answers && p.from < all || p.from < own {
			t.Fatalf("%s: an answer shares memory with what was given, with another answer or with another part of it", what)
		}
		all = max(all, p.to)
		if p.answers {
			own = max(own, p.to)
		}
	}
}

// roomy is a thing in memory of its own, whose lists have room behind their ends, into which nothing may be written.
func roomy(v reflect.Value) reflect.Value {
	w := reflect.New(v.Type()).Elem()
	switch v.Kind() {
	case reflect.String:
		w.SetString(strings.Clone(v.String()))
	case reflect.Slice:
		w.Set(reflect.MakeSlice(v.Type(), v.Len(), v.Len()+3))
		for i := range v.Len() {
			w.Index(i).Set(roomy(v.Index(i)))
		}
	case reflect.Struct:
		for i := range v.NumField() {
			w.Field(i).Set(roomy(v.Field(i)))
		}
	default:
		w.Set(v)
	}
	return w
}

func given[T any](x T) T {
	return roomy(reflect.ValueOf(x)).Interface().(T)
}

// stretched shows a thing with all the room that its lists have.
func stretched(v reflect.Value) string {
	var s strings.Builder
	switch v.Kind() {
	case reflect.Slice:
		for i := range v.Cap() {
			s.WriteString(stretched(v.Slice(0, v.Cap()).Index(i)) + ",")
		}
		return "[" + s.String() + "]"
	case reflect.Struct:
		for i := range v.NumField() {
			s.WriteString(stretched(v.Field(i)) + ";")
		}
		return "{" + s.String() + "}"
	}
	return fmt.Sprintf("%#v", v.Interface())
}

func shown(x any) string {
	return stretched(reflect.ValueOf(x))
}

// Told is all that the calls tell of chains.
type Told struct {
	Value     string
	Is        bool
	Stamp     int
	Pairs     []api.Pair
	Written   gc.Chains
	Committed gc.Chains
	Undone    gc.Chains
	Swept     gc.Chains
	Went      int
	Errors    [7]api.Errno
}

// An Ask is what calls are given.
type Ask struct {
	Chains           gc.Chains
	Key, To          string
	Snap, Txn, Stamp int
	Gone             bool
	Value            string
}

func tell(a Ask) Told {
	var x Told
	x.Errors[0] = gc.Check(a.Chains)
	x.Value, x.Is, x.Stamp, x.Errors[1] = gc.Get(a.Chains, a.Key, a.Snap, a.Txn)
	x.Pairs, x.Errors[2] = gc.Range(a.Chains, a.Key, a.To, a.Snap, a.Txn)
	x.Written, x.Errors[3] = gc.Put(a.Chains, a.Key, a.Snap, a.Txn, a.Gone, a.Value)
	x.Committed, x.Errors[4] = gc.Commit(a.Chains, a.Txn, a.Stamp)
	x.Undone, x.Errors[5] = gc.Undo(a.Chains, a.Txn)
	x.Swept, x.Went, x.Errors[6] = gc.Sweep(a.Chains, a.Snap)
	return x
}

// asks are calls of chains that may be, and of some that may not.
func asks() []Ask {
	next := rolled(185)
	l := []Ask{{}, {Txn: 1}, {Key: "k", Txn: 1, Value: "alone"}, {Key: "k", Txn: 1, Gone: true}}
	for i := range 1500 {
		c := rolledChains(next)
		if i%8 == 7 {
			c = bend(next, c)
		}
		a := someAsk(next, c)
		l = append(l, given(Ask{c, a.key, a.to, a.snap, a.txn, a.stamp, a.isGone, a.value}))
	}
	return l
}

func TestP185AnswersAreNewMemory(t *testing.T) {
	told := [7]int{}
	for i, a := range asks() {
		was := shown(a)
		first, second := tell(a), tell(a)
		if shown(a) != was {
			t.Fatalf("ask %d: what was given is changed", i)
		}
		if fmt.Sprint(first) != fmt.Sprint(second) {
			t.Fatalf("ask %d: told otherwise once more", i)
		}
		what := fmt.Sprint("ask ", i)
		apart(t, what, first, a, second)
		apart(t, what, second, a, first)
		for call, err := range first.Errors {
			if err == api.OK {
				told[call]++
			}
		}
	}
	for call, n := range told {
		if n < 300 {
			t.Error("of call", call, "just", n)
		}
	}
}

// Also where one text, or one list, is handed in at several places, and where texts have but one octet, or none.
func TestP185WhatIsSharedByArguments(t *testing.T) {
	for _, text := range []string{"", "v", "a text"} {
		text = given(text)
		behind := given(text + "\x00")
		l := chain{was(0, 2, text), was(5, 1, text), was(3, 2, text)}
		c := of(kept{text, l}, kept{behind, l})
		v, is, _, err := gc.Get(c, text, 9, 2)
		if v != text || !is || err != api.OK {
			t.Error("Get:", v, is, err)
		}
		apart(t, "Get", v, c)
		pairs, err := gc.Range(c, text, "", 9, 2)
		ranges(t, "shared", pairs, err, []api.Pair{{Key: text, Value: text}, {Key: behind, Value: text}})
		apart(t, "Range", pairs, c)
		next, err := gc.Put(c, text, 9, 2, false, text)
		tells(t, "Put over its own", next, err, c)
		apart(t, "Put over its own", next, c, text)
		next, err = gc.Put(c, behind+text+"x", 9, 2, false, text)
		tells(t, "Put of a new key", next, err, of(append([]kept{{text, l}, {behind, l}}, kept{behind + text + "x", l[:1]})...))
		apart(t, "Put of a new key", next, c, text)
		key := given(text + "w")
		next, err = gc.Put(gc.Chains{}, key, 9, 2, false, key)
		tells(t, "Put of one text", next, err, of(kept{key, chain{was(0, 2, key)}}))
		apart(t, "Put of one text", next, key)
		done := chain{was(6, 2, text), l[1], l[2]}
		next, err = gc.Commit(c, 2, 6)
		tells(t, "Commit", next, err, of(kept{text, done}, kept{behind, done}))
		apart(t, "Commit", next, c)
		next, err = gc.Commit(c, 7, 6)
		tells(t, "Commit of nothing", next, err, c)
		apart(t, "Commit of nothing", next, c)
		for txn := 1; txn <= 2; txn++ {
			next, err = gc.Undo(c, txn)
			tells(t, "Undo", next, err, of(kept{text, l[txn-1:]}, kept{behind, l[txn-1:]}))
			apart(t, "Undo", next, c)
		}
		for horizon, left := range map[int]int{2: 3, 3: 3, 5: 2} {
			next, went, err := gc.Sweep(c, horizon)
			tells(t, "Sweep", next, err, of(kept{text, l[:left]}, kept{behind, l[:left]}))
			apart(t, "Sweep", next, c)
			if went != 6-2*left {
				t.Error("Sweep:", went, "went")
			}
		}
	}
}

// wipe writes over all that an answer has, behind its ends, too.
func wipe(c gc.Chains) {
	for _, l := range c.Lists {
		clear(l[:cap(l)])
	}
	clear(c.Lists[:cap(c.Lists)])
	clear(c.Keys[:cap(c.Keys)])
}

// What is handed out is its owner's: what he writes there, or behind its end, is not seen elsewhere; also where the chains are told as they were.
func TestP185AnswersAreTheCallersOwn(t *testing.T) {
	c := given(some())
	head := gc.Chains{Keys: c.Keys[:2], Lists: c.Lists[:2]} // with room behind its ends
	was := shown(c)
	for i, call := range []func() (gc.Chains, api.Errno){
		func() (gc.Chains, api.Errno) { return gc.Put(c, "a", 9, 8, false, "w") },
		func() (gc.Chains, api.Errno) { return gc.Put(c, "b", 9, 4, true, "") },
		func() (gc.Chains, api.Errno) { return gc.Put(c, "aa", 9, 8, false, "w") },
		func() (gc.Chains, api.Errno) { return gc.Put(head, "aa", 9, 8, false, "w") },
		func() (gc.Chains, api.Errno) { return gc.Put(head, "bb", 9, 8, false, "w") },
		func() (gc.Chains, api.Errno) { return gc.Commit(c, 4, 10) },
		func() (gc.Chains, api.Errno) { return gc.Commit(c, 9, 10) },
		func() (gc.Chains, api.Errno) { return gc.Undo(c, 4) },
		func() (gc.Chains, api.Errno) { return gc.Undo(c, 9) },
		func() (gc.Chains, api.Errno) { n, _, err := gc.Sweep(c, 0); return n, err },
		func() (gc.Chains, api.Errno) { n, _, err := gc.Sweep(c, 5); return n, err },
		func() (gc.Chains, api.Errno) { n, _, err := gc.Sweep(head, 9); return n, err },
		func() (gc.Chains, api.Errno) { n, _, err := gc.Sweep(c, most); return n, err },
	} {
		first, err := call()
		want := fmt.Sprint(first)
		if len(first.Keys) == 0 || err != api.OK {
			t.Error("call", i, "told", first, err)
		}
		wipe(first)
		if second, err := call(); err != api.OK || fmt.Sprint(second) != want || shown(c) != was {
			t.Error("call", i, "told otherwise:", second, err)
		}
	}
	first, _ := gc.Range(c, "", "", 9, 9)
	want := fmt.Sprint(first)
	clear(first[:cap(first)])
	if l, err := gc.Range(c, "", "", 9, 9); fmt.Sprint(l) != want || err != api.OK || shown(c) != was {
		t.Error("Range told otherwise:", l, err)
	}
}

// emptied is a thing whose empty lists are none, or not.
func emptied(v reflect.Value, not bool) reflect.Value {
	w := reflect.New(v.Type()).Elem()
	w.Set(v)
	switch v.Kind() {
	case reflect.Slice:
		w.SetZero()
		if v.Len() > 0 || not {
			w.Set(reflect.MakeSlice(v.Type(), v.Len(), v.Len()))
		}
		for i := range v.Len() {
			w.Index(i).Set(emptied(v.Index(i), not))
		}
	case reflect.Struct:
		for i := range v.NumField() {
			w.Field(i).Set(emptied(v.Field(i), not))
		}
	}
	return w
}

// Nil and empty lists are one.
func TestP185EmptyListsAreNone(t *testing.T) {
	l := append(asks()[:4], Ask{Chains: gc.Chains{Keys: []string{"k"}, Lists: []chain{nil}}, Key: "k", Txn: 1})
	for i, a := range l {
		x := tell(emptied(reflect.ValueOf(a), false).Interface().(Ask))
		y := tell(emptied(reflect.ValueOf(a), true).Interface().(Ask))
		if fmt.Sprint(x) != fmt.Sprint(y) {
			t.Errorf("ask %d: nil and empty are told apart: %+v, %+v", i, x, y)
		}
	}
}

// What was asked ahead does not matter, nor what is asked side by side.
func TestP185NothingIsKept(t *testing.T) {
	l := asks()
	all := func() string {
		var s strings.Builder
		for _, a := range l {
			fmt.Fprint(&s, tell(a), ";")
		}
		return s.String()
	}
	want := all()
	done := make(chan string)
	for range 4 {
		go func() { done <- all() }()
	}
	for range 4 {
		if <-done != want {
			t.Error("told otherwise")
		}
	}
}
