package catalog_test

import (
	"fmt"
	"reflect"
	"slices"
	"strings"
	"testing"
	"unsafe"

	"switchback/api"
	"switchback/catalog"
)

// A piece of memory: where it begins and ends.
type piece struct {
	from, to uintptr
	list     bool
}

// pieces puts what a thing holds: its lists, as far as they have room, and its texts.
func pieces(v reflect.Value, l []piece) []piece {
	switch v.Kind() {
	case reflect.String:
		s := v.String()
		if s != "" {
			from := uintptr(unsafe.Pointer(unsafe.StringData(s)))
			l = append(l, piece{from, from + uintptr(len(s)), false})
		}
	case reflect.Slice:
		if v.Cap() > 0 {
			l = append(l, piece{v.Pointer(), v.Pointer() + uintptr(v.Cap())*v.Type().Elem().Size(), true})
		}
		for i := range v.Len() {
			l = pieces(v.Index(i), l)
		}
	case reflect.Struct:
		for i := range v.NumField() {
			l = pieces(v.Field(i), l)
		}
	}
	return l
}

func (p piece) meets(q piece) bool {
	return p.from < q.to && q.from < p.to
}

// apart tells whether no list of an answer meets another one of it, and nothing of it anything of the others.
func apart(t *testing.T, what string, answer any, others ...any) {
	t.Helper()
	l := pieces(reflect.ValueOf(answer), nil)
	var m []piece
	for _, x := range others {
		m = pieces(reflect.ValueOf(x), m)
	}
	for i, p := range l {
		for _, q := range m {
			if p.meets(q) {
				t.Fatalf("%s: it shares memory with what was given, or with another answer", what)
			}
		}
		for _, q := range l[:i] {
			if p.list && q.list && p.meets(q) {
				t.Fatalf("%s: two lists of one answer share memory", what)
			}
		}
	}
}

// roomy has room behind each list's end, where nothing may be written.
func roomy(s catalog.State) catalog.State {
	s = cloneState(s)
	s.Tables = slices.Grow(s.Tables, 3)
	for i := range s.Tables {
		t := &s.Tables[i]
		t.Columns, t.Indexes = slices.Grow(t.Columns, 3), slices.Grow(t.Indexes, 3)
	}
	return s
}

// stretched shows a state with all the room that its lists have.
func stretched(s catalog.State) catalog.State {
	s = catalog.State{Tables: slices.Clone(s.Tables[:cap(s.Tables)])}
	for i := range s.Tables {
		t := &s.Tables[i]
		t.Columns, t.Indexes = slices.Clone(t.Columns[:cap(t.Columns)]), slices.Clone(t.Indexes[:cap(t.Indexes)])
	}
	return s
}

// each runs f with every call that answers a state, and with what it is given.
func each(f func(what string, s catalog.State, given any, call func() (catalog.State, api.Errno))) {
	for n := range 9 {
		s := roomy(full(n))
		for i := range s.Tables {
			s.Tables[i].Indexes = s.Tables[i].Indexes[:3]
		}
		x := create(strings.Clone("t3x"), table("t3x", 8).Columns...)
		f("Create", s, x, func() (catalog.State, api.Errno) { return catalog.Create(s, x) })
		for i := range n {
			name := fmt.Sprint("t", i)
			y := index(strings.Clone("new"), name, "c3")
			f("Add", s, y, func() (catalog.State, api.Errno) { return catalog.Add(s, y) })
			f("Drop", s, name, func() (catalog.State, api.Errno) { return catalog.Drop(s, name) })
		}
	}
}

func TestP65StatesAreNewMemory(t *testing.T) {
	each(func(what string, s catalog.State, given any, call func() (catalog.State, api.Errno)) {
		was := stretched(s)
		kept := fmt.Sprintf("%#v", given)
		first, e := call()
		second, f := call()
		if e != f || !same(first, second) {
			t.Fatalf("%s: %v, %d, once more %v, %d", what, first, e, second, f)
		}
		apart(t, what, first, second, s, given)
		apart(t, what, second, s, given)
		if !reflect.DeepEqual(was, stretched(s)) || kept != fmt.Sprintf("%#v", given) {
			t.Fatalf("%s changed what it was given", what)
		}
	})
}

func TestP65ListsAndTablesAreNewMemory(t *testing.T) {
	for _, x := range some() {
		given := roomy(state(x)).Tables[0]
		kept := clone(given)
		first, _ := catalog.Encode(given)
		second, _ := catalog.Encode(given)
		apart(t, "Encode", first, second, given)
		apart(t, "Encode", second, given)
		if !reflect.DeepEqual(given, kept) || !slices.Equal(first, second) {
			t.Fatalf("Encode changed what it was given")
		}
		l := slices.Clone(first)
		y, _ := catalog.Decode(first)
		z, _ := catalog.Decode(first)
		apart(t, "Decode", y, z, first)
		apart(t, "Decode", z, first)
		if !slices.Equal(l, first) || !sameTable(y, z) {
			t.Fatalf("Decode changed what it was given")
		}
	}
}

// What is written into an answer is not seen in what was given, nor in another answer.
func TestP65AnswersAreTheCallersOwn(t *testing.T) {
	each(func(what string, s catalog.State, given any, call func() (catalog.State, api.Errno)) {
		was := stretched(s)
		first, e := call()
		if e != api.OK {
			return
		}
		want := cloneState(first)
		first.Tables = first.Tables[:cap(first.Tables)]
		for i := range first.Tables {
			t := &first.Tables[i]
			for j := range t.Columns {
				t.Columns[j] = api.Column{Name: "spoilt"}
			}
			for j := range t.Indexes {
				t.Indexes[j] = catalog.Index{Name: "spoilt"}
			}
			*t = catalog.Table{Name: "spoilt"}
		}
		if again, e := call(); e != api.OK || !same(again, want) || !reflect.DeepEqual(was, stretched(s)) {
			t.Fatalf("%s: what was written into its answer is seen", what)
		}
	})
}

// What was asked ahead does not matter, nor what is asked side by side.
func TestP65NothingIsKept(t *testing.T) {
	ask := func() string {
		var tell strings.Builder
		bad := state(table("b", 2), table("a", 2))
		each(func(what string, s catalog.State, given any, call func() (catalog.State, api.Errno)) {
			u, e := call()
			n, f := catalog.Find(s, "t3")
			fmt.Fprint(&tell, what, u, e, n, f, catalog.Check(s), catalog.Check(bad))
		})
		for _, x := range some() {
			l, e := catalog.Encode(x)
			y, f := catalog.Decode(l)
			_, g := catalog.Decode(l[1:])
			fmt.Fprint(&tell, l, e, y, f, g)
		}
		return tell.String()
	}
	want := ask()
	done := make(chan string)
	for range 8 {
		go func() { done <- ask() }()
	}
	for range 8 {
		if <-done != want {
			t.Error("told otherwise")
		}
	}
}
