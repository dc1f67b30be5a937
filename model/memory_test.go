package model_test

import (
	"fmt"
	"reflect"
	"slices"
	"strings"
	"testing"
	"unsafe"

	"switchback/api"
	"switchback/model"
)

// A piece of memory: where it begins and ends.
type piece struct {
	from, to uintptr
}

// pieces puts what a thing holds: its lists, as far as they have room, and its texts.
func pieces(v reflect.Value, l []piece) []piece {
	switch v.Kind() {
	case reflect.String:
		s := v.String()
		if s != "" {
			from := uintptr(unsafe.Pointer(unsafe.StringData(s)))
			l = append(l, piece{from, from + uintptr(len(s))})
		}
	case reflect.Slice:
		if v.Cap() > 0 {
			l = append(l, piece{v.Pointer(), v.Pointer() + uintptr(v.Cap())*v.Type().Elem().Size()})
		}
		for i := range v.Len() {
			l = pieces(v.Index(i), l)
		}
	case reflect.Struct:
		for i := range v.NumField() {
			l = pieces(v.Field(i), l)
		}
	}
	return l
}

// apart tells whether no two parts of an answer meet, and nothing of it anything of the others.
func apart(t *testing.T, what string, answer any, others ...any) {
	t.Helper()
	type owned struct {
		piece
		answers bool
	}
	var l []owned
	for _, p := range pieces(reflect.ValueOf(answer), nil) {
		l = append(l, owned{p, true})
	}
	for _, x := range others {
		for _, p := range pieces(reflect.ValueOf(x), nil) {
			l = append(l, owned{p, false})
		}
	}
	slices.SortFunc(l, func(p, q owned) int {
		if p.from < q.from {
			return -1
		}
		return min(1, int(p.from-q.from))
	})
	// Of all ahead, and of the answer's ahead: how far they go.
	var all, own uintptr
	for _, p := range l {
		if p.answers && p.from < all || p.from < own {
			t.Fatalf("%s: an answer shares memory with what was given, with another answer or with another part of it", what)
		}
		all = max(all, p.to)
		if p.answers {
			own = max(own, p.to)
		}
	}
}

// roomy is a thing in memory of its own, whose lists have room behind their ends, into which nothing may be written.
func roomy(v reflect.Value) reflect.Value {
	w := reflect.New(v.Type()).Elem()
	switch v.Kind() {
	case reflect.String:
		w.SetString(strings.Clone(v.String()))
	case reflect.Slice:
		w.Set(reflect.MakeSlice(v.Type(), v.Len(), v.Len()+3))
		for i := range v.Len() {
			w.Index(i).Set(roomy(v.Index(i)))
		}
	case reflect.Struct:
		for i := range v.NumField() {
			w.Field(i).Set(roomy(v.Field(i)))
		}
	default:
		w.Set(v)
	}
	return w
}

func given[T any](x T) T {
	return roomy(reflect.ValueOf(x)).Interface().(T)
}

// stretched shows a thing with all the room that its lists have.
func stretched(v reflect.Value) string {
	var s strings.Builder
	switch v.Kind() {
	case reflect.Slice:
		for i := range v.Cap() {
			s.WriteString(stretched(v.Slice(0, v.Cap()).Index(i)) + ",")
		}
		return "[" + s.String() + "]"
	case reflect.Struct:
		for i := range v.NumField() {
			s.WriteString(stretched(v.Field(i)) + ";")
		}
		return "{" + s.String() + "}"
	}
	return fmt.Sprintf("%#v", v.Interface())
}

func shown(x any) string {
	return stretched(reflect.ValueOf(x))
}

// An Ask is what calls are given.
type Ask struct {
	State model.State
	Stmt  api.Stmt
	Text  string
	Texts []string
}

// An Answer is what a call tells.
type Answer struct {
	State   model.State
	Results []api.Result
	Err     api.Errno
}

// calls answers what each call tells.
func (a Ask) calls() [3]Answer {
	var l [3]Answer
	var told api.Result
	l[0].State, told = model.Run(a.State, a.Stmt)
	l[0].Results = []api.Result{told}
	l[1].State, told = model.Text(a.State, a.Text)
	l[1].Results = []api.Result{told}
	l[2].State, l[2].Results, l[2].Err = model.Texts(a.State, a.Texts)
	return l
}

// texts are statements of each Kind, with errors and without.
func texts() []string {
	return []string{
		"create table new (a text, b text, primary key (b))", "create table t (a int, primary key (a))",
		"create index new on t (b)", "create index new on e (k)", "create index i on t (b)",
		"drop table t", "drop table u", "drop table nowhere",
		"insert into t values (1, 7, null, 'a text'), (2, 8, true, 'a text')", "insert into u values ('a', 1)", "insert into u values ('a', 1), ('x', 2)", "insert into e values (1), (1 / 0)",
		"update t set c = 'a text', n = null", "update t set c = c where a < 3", "update u set d = 'a' where d = 'x'", "update t set a = 1", "update t set n = 1 / (a - 5)",
		"delete from t where c = 'x'", "delete from u", "delete from t where false", "delete from t where 1 / (a - 5) = 1",
		"select c, c, a, 'a text' from t", "select c, max(c), min('a text') from t group by c order by 1 desc", "select c, d from t join u on true", "select d from u limit 2", "select 1 / a from t where 1 / 0 = 1", "select k from e",
		"begin", "commit", "rollback", "no statement", "select 'x",
	}
}

// asks are calls of all kinds; some are refused.
func asks() []Ask {
	wrong := some()
	wrong.Rows = wrong.Rows[:2]
	var l []Ask
	for _, s := range []model.State{some(), {}, full(2), with(some(), "t"), wrong} {
		for i, x := range texts() {
			a := Ask{State: s, Text: x, Texts: []string{x, "select c from t", x, texts()[(i+7)%len(texts())], texts()[(i+16)%len(texts())], "select c from t"}}
			if i < len(texts())-2 {
				a.Stmt = stmt(x)
			}
			l = append(l, given(a))
		}
	}
	l = append(l, given(Ask{State: some()}), given(Ask{State: full(256), Stmt: stmt("begin"), Text: "select c2, c5 from t3", Texts: texts()}))
	return append(l, given(Ask{State: some(), Stmt: stmt("begin"), Text: "begin", Texts: make([]string, 4097)}))
}

func TestP115AnswersAreNewMemory(t *testing.T) {
	done := [3]int{}
	for i, a := range asks() {
		was := shown(a)
		first, second := a.calls(), a.calls()
		if shown(a) != was {
			t.Fatalf("ask %d: what was given is changed", i)
		}
		for call, x := range first {
			if y := second[call]; !same(x.State, y.State) || !sameResults(x.Results, y.Results) || x.Err != y.Err {
				t.Fatalf("ask %d, call %d: %s, once more %s", i, call, brief(x), brief(y))
			}
			if len(x.State.Rows) > 0 {
				done[call]++
			}
			what := fmt.Sprint("ask ", i, ", call ", call)
			apart(t, what, x, second, a, slices.Delete(slices.Clone(first[:]), call, call+1))
			apart(t, what, second[call], a)
		}
	}
	for call, n := range done {
		if n < 90 {
			t.Errorf("call %d told a state %d times only", call, n)
		}
	}
}

// What is handed in once for many rows, or for many tables, is many lists and texts in the answer.
func TestP115PartsOfAnAnswerAreApart(t *testing.T) {
	s := full(2)
	one := make([]api.Value, 0, 8)
	for _, v := range s.Rows[0][0] {
		one = append(one, v)
	}
	name := "abcdefghijklmnop"
	for at := range s.Catalog.Tables {
		t := &s.Catalog.Tables[at]
		t.Key, t.Columns = s.Catalog.Tables[0].Key, s.Catalog.Tables[0].Columns
		t.Name, t.Indexes[0].Name = name[:at+1], name[:at+2]
		s.Rows[at] = [][]api.Value{one}
	}
	may(t, "lists that are one", s)
	for _, x := range append(texts(), "select c2, c5 from abcd", "insert into ab values (7, true, 'x', 1, true, 'x', 1, true)", "update abc set c2 = c5, c5 = c2", "create index new on a (c0)", "drop table a") {
		next, told := model.Text(s, x)
		apart(t, x, Answer{State: next, Results: []api.Result{told}}, s, x)
		next, all, err := model.Texts(s, []string{x, "select c2, c5 from abcd", "select c2, c5 from abcd", x})
		apart(t, x, Answer{next, all, err}, s, x)
	}
}

// spoil writes over all lists of a thing, as far as they have room.
func spoil(v reflect.Value) {
	switch v.Kind() {
	case reflect.Slice:
		v = v.Slice(0, v.Cap())
		for i := range v.Len() {
			spoil(v.Index(i))
			v.Index(i).SetZero()
		}
	case reflect.Struct:
		for i := range v.NumField() {
			spoil(v.Field(i))
		}
	}
}

// What is written into an answer is not seen in what was given, nor in another answer.
func TestP115AnswersAreTheCallersOwn(t *testing.T) {
	for i, a := range asks() {
		was := shown(a)
		first, second := a.calls(), a.calls()
		want := shown(second)
		spoil(reflect.ValueOf(first))
		if shown(second) != want || shown(a.calls()) != want || shown(a) != was {
			t.Fatalf("ask %d: what was written into its answer is seen", i)
		}
	}
}

// emptied is a thing whose empty lists are not nil, and emptied the other way round are nil.
func emptied(v reflect.Value, not bool) reflect.Value {
	w := roomy(v)
	switch v.Kind() {
	case reflect.Slice:
		if v.Len() == 0 {
			w = reflect.Zero(v.Type())
			if not {
				w = reflect.MakeSlice(v.Type(), 0, 0)
			}
		}
		for i := range v.Len() {
			w.Index(i).Set(emptied(v.Index(i), not))
		}
	case reflect.Struct:
		for i := range v.NumField() {
			w.Field(i).Set(emptied(v.Field(i), not))
		}
	}
	return w
}

// Nil and empty lists are one.
func TestP115EmptyListsAreNone(t *testing.T) {
	for i, a := range asks() {
		first := emptied(reflect.ValueOf(a), true).Interface().(Ask).calls()
		second := emptied(reflect.ValueOf(a), false).Interface().(Ask).calls()
		for call, x := range first {
			if y := second[call]; !same(x.State, y.State) || !sameResults(x.Results, y.Results) || x.Err != y.Err {
				t.Errorf("ask %d, call %d: %s with empty lists, %s with nil", i, call, brief(x), brief(y))
			}
		}
	}
}

// What was asked ahead does not matter, nor what is asked side by side.
func TestP115NothingIsKept(t *testing.T) {
	l := asks()
	tell := func() string {
		var tell strings.Builder
		for _, a := range l {
			fmt.Fprintln(&tell, a.calls())
		}
		return tell.String()
	}
	want := tell()
	done := make(chan string)
	for range 8 {
		go func() { done <- tell() }()
	}
	for range 8 {
		if <-done != want {
			t.Error("told otherwise")
		}
	}
}

// A statement with an error, a select, and one of a transaction leave what was there, to the last octet.
func TestP114WhatChangesNothing(t *testing.T) {
	for _, s := range []model.State{{}, some(), full(3)} {
		kept := 0
		for _, x := range texts() {
			next, told := model.Text(s, x)
			stays := told.Err != api.OK || strings.HasPrefix(x, "select") || len(strings.Fields(x)) == 1
			if stays {
				kept++
			}
			if stays && !same(next, s) {
				t.Errorf("%s tells %s, and leaves %s", x, brief(told), brief(next))
			}
			if told.Err != api.OK && (told.N != 0 || len(told.Rows) != 0) {
				t.Errorf("%s tells %s", x, brief(told))
			}
		}
		if kept < 15 {
			t.Errorf("only %d of %d change nothing", kept, len(texts()))
		}
	}
}
