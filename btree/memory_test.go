package btree_test

import (
	"fmt"
	"reflect"
	"slices"
	"strings"
	"testing"
	"unsafe"

	"switchback/api"
	"switchback/btree"
)

// A piece of memory: where it begins and ends.
type piece struct {
	from, to uintptr
}

// pieces puts what a thing holds: its lists, as far as they have room, and its texts.
func pieces(v reflect.Value, l []piece) []piece {
	switch v.Kind() {
	case reflect.String:
		s := v.String()
		if s != "" {
			from := uintptr(unsafe.Pointer(unsafe.StringData(s)))
			l = append(l, piece{from, from + uintptr(len(s))})
		}
	case reflect.Slice:
		if v.Cap() > 0 {
			l = append(l, piece{v.Pointer(), v.Pointer() + uintptr(v.Cap())*v.Type().Elem().Size()})
		}
		for i := range v.Len() {
			l = pieces(v.Index(i), l)
		}
	case reflect.Struct:
		for i := range v.NumField() {
			l = pieces(v.Field(i), l)
		}
	}
	return l
}

// apart tells whether no two parts of an answer meet, and nothing of it anything of the others.
func apart(t *testing.T, what string, answer any, others ...any) {
	t.Helper()
	type owned struct {
		piece
		answers bool
	}
	var l []owned
	for _, p := range pieces(reflect.ValueOf(answer), nil) {
		l = append(l, owned{p, true})
	}
	for _, x := range others {
		for _, p := range pieces(reflect.ValueOf(x), nil) {
			l = append(l, owned{p, false})
		}
	}
	slices.SortFunc(l, func(p, q owned) int {
		if p.from < q.from {
			return -1
		}
		return min(1, int(p.from-q.from))
	})
	// Of all ahead, and of the answer's ahead: how far they go.
	var all, own uintptr
	for _, p := range l {
		if p.answers && p.from < all || p.from < own {
			t.Fatalf("%s: an answer shares memory with what was given, with another answer or with another part of it", what)
		}
		all = max(all, p.to)
		if p.answers {
			own = max(own, p.to)
		}
	}
}

// roomy is a thing in memory of its own, whose lists have room behind their ends, into which nothing may be written.
func roomy(v reflect.Value) reflect.Value {
	w := reflect.New(v.Type()).Elem()
	switch v.Kind() {
	case reflect.String:
		w.SetString(strings.Clone(v.String()))
	case reflect.Slice:
		w.Set(reflect.MakeSlice(v.Type(), v.Len(), v.Len()+3))
		for i := range v.Len() {
			w.Index(i).Set(roomy(v.Index(i)))
		}
	case reflect.Struct:
		for i := range v.NumField() {
			w.Field(i).Set(roomy(v.Field(i)))
		}
	default:
		w.Set(v)
	}
	return w
}

func given[T any](x T) T {
	return roomy(reflect.ValueOf(x)).Interface().(T)
}

// stretched shows a thing with all the room that its lists have.
func stretched(v reflect.Value) string {
	var s strings.Builder
	switch v.Kind() {
	case reflect.Slice:
		for i := range v.Cap() {
			s.WriteString(stretched(v.Slice(0, v.Cap()).Index(i)) + ",")
		}
		return "[" + s.String() + "]"
	case reflect.Struct:
		for i := range v.NumField() {
			s.WriteString(stretched(v.Field(i)) + ";")
		}
		return "{" + s.String() + "}"
	}
	return fmt.Sprintf("%#v", v.Interface())
}

func shown(x any) string {
	return stretched(reflect.ValueOf(x))
}

// Told is all that the calls tell of a tree, a key and a value.
type Told struct {
	Put     btree.State
	Deleted btree.State
	Was     bool
	Value   string
	Is      bool
	Pairs   []api.Pair
	All     []api.Pair
	Depth   int
	Errors  [7]api.Errno
}

func tell(s btree.State, key, value string) Told {
	var x Told
	x.Put, x.Errors[0] = btree.Put(s, key, value)
	x.Deleted, x.Was, x.Errors[1] = btree.Delete(s, key)
	x.Value, x.Is, x.Errors[2] = btree.Get(s, key)
	x.Pairs, x.Errors[3] = btree.Range(s, key, value)
	x.All, x.Errors[4] = btree.Range(s, "", "")
	x.Depth, x.Errors[5] = btree.Depth(s)
	x.Errors[6] = btree.Check(s)
	return x
}

// An Ask is what calls are given.
type Ask struct {
	State btree.State
	Key   string
	Value string
}

// asks are calls of trees of many shapes, of keys that are there and that are not; some trees may not be.
func asks() []Ask {
	var l []Ask
	for _, n := range []int{0, 1, 2, 3, 4, 5, 9, 12, 13, 20, 21, 36, 100, 2048} {
		for _, s := range planted(n) {
			for _, at := range []int{0, 1, 2, 3, n - 1, n, n + 1, 2*n - 1, 2 * n, 2*n + 1} {
				l = append(l, given(Ask{s, key(max(0, at)), "a value that is new"}))
			}
		}
	}
	l = append(l, given(Ask{tree(-1), "", ""}), given(Ask{tree(0, leaf("a b")), "", ""}))
	for _, s := range []btree.State{{}, tree(0, leaf("b a")), tree(3, leaf("a b")), tree(1, leaf("a b"), over("c", 0))} {
		l = append(l, given(Ask{s, "a", "b"}))
	}
	return l
}

func TestP124AnswersAreNewMemory(t *testing.T) {
	for i, a := range asks() {
		was := shown(a)
		first, second := tell(a.State, a.Key, a.Value), tell(a.State, a.Key, a.Value)
		if shown(a) != was {
			t.Fatalf("ask %d: what was given is changed", i)
		}
		if shown(first) != shown(second) {
			t.Fatalf("ask %d: told otherwise once more", i)
		}
		what := fmt.Sprint("ask ", i)
		apart(t, what, first, a, second)
		apart(t, what, second, a, first)
	}
}

// Also where a list of one node is the room behind that of another.
func TestP124ListsThatLieInOneAnother(t *testing.T) {
	keys := []string{"a", "b", "c", "d", "e", "f", "x", "x"}
	values := []string{"1", "2", "3", "4", "5", "6", "x", "x"}
	kids := []int{0, 1, 2, 7, 7, 7}
	s := tree(3,
		btree.Node{Keys: keys[0:2], Values: values[0:2]}, btree.Node{Keys: keys[2:4], Values: values[2:4]},
		btree.Node{Keys: keys[4:6], Values: values[4:6]}, btree.Node{Keys: []string{keys[2], keys[4]}, Kids: kids[0:3]})
	was := shown(s)
	for _, k := range []string{"", "a", "aa", "b", "c", "cc", "e", "f", "g"} {
		x := tell(s, k, "new")
		if shown(s) != was || keys[6] != "x" || values[7] != "x" || kids[3] != 7 {
			t.Fatalf("%q: what was given is changed", k)
		}
		apart(t, k, x, s)
	}
}

// What is written into an answer is not seen in what was given, nor in another answer.
func TestP124AnswersAreTheCallersOwn(t *testing.T) {
	for i, a := range asks() {
		was := shown(a)
		x := tell(a.State, a.Key, a.Value)
		want := shown(x)
		for _, s := range []btree.State{x.Put, x.Deleted} {
			for j := range s.Nodes {
				spoil(s.Nodes[j].Keys, "spoilt")
				spoil(s.Nodes[j].Values, "spoilt")
				spoil(s.Nodes[j].Kids, -7)
			}
			spoil(s.Nodes, btree.Node{})
		}
		spoil(x.Pairs, api.Pair{Key: "spoilt"})
		spoil(x.All, api.Pair{Key: "spoilt"})
		if shown(tell(a.State, a.Key, a.Value)) != want || shown(a) != was {
			t.Fatalf("ask %d: what was written into its answer is seen", i)
		}
	}
	x, y := btree.New(), btree.New()
	apart(t, "New", x, y)
}

func spoil[T any](l []T, x T) {
	l = l[:cap(l)]
	for i := range l {
		l[i] = x
	}
}

// Nil and empty lists are one.
func TestP124EmptyListsAreNone(t *testing.T) {
	for i, a := range asks() {
		for j := range a.State.Nodes {
			n := &a.State.Nodes[j]
			n.Keys, n.Values, n.Kids = slices.Clip(n.Keys), slices.Clip(n.Values), slices.Clip(n.Kids)
		}
		full, bare := given(a), given(a)
		if len(a.State.Nodes) == 0 {
			full.State.Nodes, bare.State.Nodes = []btree.Node{}, nil
		}
		for j := range bare.State.Nodes {
			n := &bare.State.Nodes[j]
			if len(n.Keys) == 0 {
				n.Keys = nil
			}
			if len(n.Values) == 0 {
				n.Values = nil
			}
			if len(n.Kids) == 0 {
				n.Kids = nil
			}
		}
		if x, y := fmt.Sprint(tell(full.State, a.Key, a.Value)), fmt.Sprint(tell(bare.State, a.Key, a.Value)); x != y {
			t.Errorf("ask %d: nil and empty are told apart: %.300s, %.300s", i, x, y)
		}
	}
}

// What was asked ahead does not matter, nor what is asked side by side.
func TestP124NothingIsKept(t *testing.T) {
	l := asks()
	all := func() string {
		var s strings.Builder
		for _, a := range l {
			fmt.Fprint(&s, tell(a.State, a.Key, a.Value), ";")
		}
		return s.String()
	}
	want := all()
	done := make(chan string)
	for range 4 {
		go func() { done <- all() }()
	}
	for range 4 {
		if <-done != want {
			t.Error("told otherwise")
		}
	}
}
