package rows_test

import (
	"fmt"
	"reflect"
	"strings"
	"testing"
	"unsafe"

	"switchback/api"
	"switchback/catalog"
	"switchback/rows"
)

// A piece of memory: where it begins and ends.
type piece struct {
	from, to uintptr
	list     bool
}

// pieces puts what a thing holds: its lists, as far as they have room, and its texts.
func pieces(v reflect.Value, l []piece) []piece {
	switch v.Kind() {
	case reflect.String:
		s := v.String()
		if s != "" {
			from := uintptr(unsafe.Pointer(unsafe.StringData(s)))
			l = append(l, piece{from, from + uintptr(len(s)), false})
		}
	case reflect.Slice:
		if v.Cap() > 0 {
			l = append(l, piece{v.Pointer(), v.Pointer() + uintptr(v.Cap())*v.Type().Elem().Size(), true})
		}
		for i := range v.Len() {
			l = pieces(v.Index(i), l)
		}
	case reflect.Struct:
		for i := range v.NumField() {
			l = pieces(v.Field(i), l)
		}
	}
	return l
}

func (p piece) meets(q piece) bool {
	return p.from < q.to && q.from < p.to
}

// apart tells whether no list of an answer meets another one of it, and nothing of it anything of the others.
func apart(t *testing.T, what string, answer any, others ...any) {
	t.Helper()
	l := pieces(reflect.ValueOf(answer), nil)
	var m []piece
	for _, x := range others {
		m = pieces(reflect.ValueOf(x), m)
	}
	for i, p := range l {
		for _, q := range m {
			if p.meets(q) {
				t.Fatalf("%s: it shares memory with what was given, or with another answer", what)
			}
		}
		for _, q := range l[:i] {
			if p.list && q.list && p.meets(q) {
				t.Fatalf("%s: two lists of one answer share memory", what)
			}
		}
	}
}

// roomy is a thing in memory of its own, whose lists have room behind their ends, into which nothing may be written.
func roomy(v reflect.Value) reflect.Value {
	w := reflect.New(v.Type()).Elem()
	switch v.Kind() {
	case reflect.String:
		w.SetString(strings.Clone(v.String()))
	case reflect.Slice:
		w.Set(reflect.MakeSlice(v.Type(), v.Len(), v.Len()+3))
		for i := range v.Len() {
			w.Index(i).Set(roomy(v.Index(i)))
		}
	case reflect.Struct:
		for i := range v.NumField() {
			w.Field(i).Set(roomy(v.Field(i)))
		}
	default:
		w.Set(v)
	}
	return w
}

func given[T any](x T) T {
	return roomy(reflect.ValueOf(x)).Interface().(T)
}

// stretched shows a thing with all the room that its lists have.
func stretched(v reflect.Value) string {
	var s strings.Builder
	switch v.Kind() {
	case reflect.Slice:
		for i := range v.Cap() {
			s.WriteString(stretched(v.Slice(0, v.Cap()).Index(i)) + ",")
		}
		return "[" + s.String() + "]"
	case reflect.Struct:
		for i := range v.NumField() {
			s.WriteString(stretched(v.Field(i)) + ";")
		}
		return "{" + s.String() + "}"
	}
	return fmt.Sprintf("%#v", v.Interface())
}

func shown(l ...any) string {
	var s strings.Builder
	for _, x := range l {
		s.WriteString(stretched(reflect.ValueOf(x)))
	}
	return s.String()
}

// An ask is what calls are given.
type ask struct {
	table catalog.Table
	rows  []row
	keys  []api.Value
	more  []row
}

// calls answers what each call that tells rows tells.
func (a ask) calls() (l [3][]row, e [3]api.Errno) {
	l[0], e[0] = rows.Insert(a.table, a.rows, a.more)
	l[1], e[1] = rows.Delete(a.table, a.rows, a.keys)
	l[2], e[2] = rows.Update(a.table, a.rows, a.keys, a.more)
	return l, e
}

func (a ask) shown() string {
	return shown(a.table, a.rows, a.keys, a.more)
}

// asks are calls of tables of each kind of key; some are refused.
func asks() []ask {
	var l []ask
	for kind := 1; kind <= 3; kind++ {
		for _, x := range []catalog.Table{shape(1, 0, kind), shape(3, 0, kind), shape(4, 3, kind), shape(8, 5, kind)} {
			some := []int{0, 1, 2}
			if kind != 2 {
				some = append(some, 3, 30)
			}
			for _, n := range some {
				there := many(x, 0, n)
				for k := 0; k <= min(n, 4); k++ {
					var keys []api.Value
					var same, new []row
					for i := range k {
						keys = append(keys, there[i][x.Key])
						same = append(same, fitting(x, there[k-1-i][x.Key], 40+i))
						new = append(new, fitting(x, nth(kind, 60+k-i), 40+i))
					}
					for _, more := range [][]row{same, new, {nil}, there} {
						l = append(l, given(askOf{x, there, keys, more}).ask())
					}
				}
			}
		}
	}
	for _, x := range wrongTables() {
		l = append(l, ask{x, many(shape(3, 1, 1), 0, 3), []api.Value{num(1)}, many(shape(3, 1, 1), 3, 4)})
	}
	x := shape(3, 1, 3)
	full := many(x, 0, 256)
	return append(l, given(askOf{x, full, []api.Value{full[7][1]}, []row{fitting(x, text("new"), 1)}}).ask())
}

// askOf is an ask whose fields can be walked.
type askOf struct {
	Table catalog.Table
	Rows  []row
	Keys  []api.Value
	More  []row
}

func (a askOf) ask() ask { return ask{a.Table, a.Rows, a.Keys, a.More} }

func TestP95RowsAreNewMemory(t *testing.T) {
	done := [3]int{}
	for i, a := range asks() {
		was := a.shown()
		first, e := a.calls()
		second, f := a.calls()
		at, is, g := rows.Find(a.table, a.rows, num(1))
		again, too, h := rows.Find(a.table, a.rows, num(1))
		rows.Check(a.table, a.rows)
		rows.Fits(a.table, row{null})
		if a.shown() != was {
			t.Fatalf("ask %d: what was given is changed", i)
		}
		if at != again || is != too || g != h {
			t.Fatalf("ask %d: Find tells otherwise", i)
		}
		for call, next := range first {
			if e[call] != f[call] || !same(next, second[call]) {
				t.Fatalf("ask %d, call %d: %s, %d, once more %s, %d", i, call, brief(next), e[call], brief(second[call]), f[call])
			}
			if e[call] == api.OK {
				done[call]++
			}
			what := fmt.Sprint("ask ", i, ", call ", call)
			apart(t, what, next, second[call], first[(call+1)%3], first[(call+2)%3], a.rows, a.keys, a.more, a.table)
			apart(t, what, second[call], a.rows, a.keys, a.more, a.table)
		}
	}
	for call, n := range done {
		if n < 50 {
			t.Errorf("call %d was done %d times only", call, n)
		}
	}
}

// The calls that change nothing hand out memory of their own, too.
func TestP95UnchangedRowsAreNewMemory(t *testing.T) {
	x := shape(4, 2, 3)
	a := given(askOf{Table: x, Rows: many(x, 0, 5)}).ask()
	next, e := a.calls()
	for call, l := range next {
		if e[call] != api.OK || !same(l, a.rows) {
			t.Errorf("call %d: %v, %d", call, l, e[call])
		}
		apart(t, fmt.Sprint("call ", call), l, a.rows)
	}
}

// What is handed in once for two rows is two lists in the answer.
func TestP95ListsOfAnAnswerAreApart(t *testing.T) {
	x := shape(3, 0, 1)
	all := make([]api.Value, 0, 9)
	for n := range 3 {
		all = append(all, fitting(x, num(n), n)...)
	}
	cut := []row{all[0:3], all[3:6], all[6:9]} // the room of each is the next one
	l, e := rows.Insert(x, nil, cut)
	if e != api.OK || !same(l, cut) {
		t.Fatalf("Insert = %v, %d", l, e)
	}
	apart(t, "Insert", l, cut)
	l, e = rows.Update(x, cut[:2], []api.Value{num(1)}, cut[2:])
	if e != api.OK || !same(l, []row{cut[0], cut[2]}) {
		t.Fatalf("Update = %v, %d", l, e)
	}
	apart(t, "Update", l, cut)
}

// What is written into an answer is not seen in what was given, nor in another answer.
func TestP95AnswersAreTheCallersOwn(t *testing.T) {
	for i, a := range asks() {
		was := a.shown()
		first, _ := a.calls()
		want := shown(first[0], first[1], first[2])
		for _, l := range first {
			l = l[:cap(l)]
			for j := range l {
				l[j] = l[j][:cap(l[j])]
				for k := range l[j] {
					l[j][k] = text("spoilt")
				}
				l[j] = nil
			}
		}
		if again, _ := a.calls(); shown(again[0], again[1], again[2]) != want || a.shown() != was {
			t.Fatalf("ask %d: what was written into its answer is seen", i)
		}
	}
}

// Nil and empty lists are one.
func TestP95EmptyListsAreNone(t *testing.T) {
	for _, x := range append(shapes(), wrongTables()["nothing"]) {
		with := []ask{{table: x}, {x, []row{}, nil, nil}, {x, nil, []api.Value{}, nil}, {x, nil, nil, []row{}}, {x, []row{}, []api.Value{}, []row{}}}
		want, e := with[0].calls()
		for _, a := range with {
			got, f := a.calls()
			for call := range got {
				if !same(got[call], want[call]) || e[call] != f[call] {
					t.Errorf("%v, call %d: %v, %d, not %v, %d", a, call, got[call], f[call], want[call], e[call])
				}
			}
			if rows.Check(x, a.rows) != rows.Check(x, nil) || rows.Fits(x, row{}) != rows.Fits(x, nil) {
				t.Errorf("%v: nil and empty are told apart", a)
			}
		}
	}
	x := withIndexes(shape(3, 1, 1))
	y := withIndexes(x, []catalog.Index{}...)
	y.Indexes = []catalog.Index{}
	checks(t, "no indexes", x, many(x, 0, 3), api.OK)
	checks(t, "no indexes", y, many(y, 0, 3), api.OK)
}

// What was asked ahead does not matter, nor what is asked side by side.
func TestP95NothingIsKept(t *testing.T) {
	l := asks()
	tell := func() string {
		var tell strings.Builder
		for _, a := range l {
			next, e := a.calls()
			at, is, f := rows.Find(a.table, a.rows, nth(1, 2))
			fmt.Fprint(&tell, next, e, at, is, f, rows.Check(a.table, a.more), ";")
		}
		return tell.String()
	}
	want := tell()
	done := make(chan string)
	for range 8 {
		go func() { done <- tell() }()
	}
	for range 8 {
		if <-done != want {
			t.Error("told otherwise")
		}
	}
}
