package model_test

import (
	"fmt"
	"slices"
	"strings"
	"testing"

	"switchback/api"
	"switchback/model"
	"switchback/parse"
)

// The chapter's example.
func TestP112Example(t *testing.T) {
	texts := []string{"CREATE TABLE t (a INT, PRIMARY KEY (a))", "INSERT INTO t VALUES (1)", "SELECT a FROM t"}
	next, all, err := model.Texts(model.State{}, texts)
	want := []api.Result{{}, {N: 1}, {N: 1, Rows: []row{{num(1)}}}}
	s := state("create table t (a int, primary key (a))")
	if !same(next, with(s, "t", row{num(1)})) || !sameResults(all, want) || err != api.OK {
		t.Errorf("%v = %s, %v, %d", texts, brief(next), all, err)
	}
}

// wrongTexts are those that parse refuses, by its error.
func wrongTexts() map[api.Errno][]string {
	sum := "1"
	for range 6 {
		sum = "(" + sum + " + " + sum + ")"
	}
	return map[api.Errno][]string{
		api.ErrLong:   {strings.Repeat(" ", 2049), "drop table t" + strings.Repeat(" ", 2037)},
		api.ErrLex:    {"@", "drop table t @", "select 'x from t", "insert into e values (9223372036854775808)", "drop table abcdefghijklmnopq", "select '" + strings.Repeat("x", 65) + "' from t"},
		api.ErrCount:  {strings.Repeat("a ", 401), "select " + strings.Repeat("1,", 200) + " 1 from t", "select " + sum + " from t"},
		api.ErrDeep:   {"select " + strings.Repeat("(", 33) + "1" + strings.Repeat(")", 33) + " from t", "delete from t where " + strings.Repeat("not ", 12) + "b"},
		api.ErrSyntax: {"", " ", "-- drop table t", ";", "drop", "drop table", "drop table t t", "drop table t; drop table u", "select", "select a b from t", "select a = 1 = 2 from t", "begin commit", "create table t (a int)", "update t set a = b = c = 1", "insert into t values ()"},
		api.ErrState:  {"select a from t order by 17", "create table z (a int, b int, c int, d int, e int, f int, g int, h int, i int, primary key (a))", "select a from t limit 4294967296", "insert into e values " + strings.Repeat("(1), ", 16) + "(1)"},
	}
}

func TestP112TextsThatAreNoStatements(t *testing.T) {
	for want, l := range wrongTexts() {
		for _, x := range l {
			if _, _, err := parse.Parse(x); err != want {
				t.Errorf("Parse of %q: %d, not %d", x, err, want)
			}
			for _, s := range []model.State{{}, some(), full(2)} {
				left, told := model.Text(s, x)
				if !same(left, s) || !sameResult(told, api.Result{Err: want}) {
					t.Errorf("Text of %.60q = %s, %v", x, brief(left), told)
				}
				left, all, err := model.Texts(s, []string{x, "begin", x})
				if !same(left, s) || !sameResults(all, []api.Result{{Err: want}, {}, {Err: want}}) || err != api.OK {
					t.Errorf("Texts of %.60q = %s, %v, %d", x, brief(left), all, err)
				}
			}
		}
	}
}

// Parse's error goes ahead of check's, whatever tables there are.
func TestP112ParseComesFirst(t *testing.T) {
	for x, want := range map[string]api.Errno{
		"select a from nowhere order by 17":                 api.ErrState,
		"select a from nowhere where":                       api.ErrSyntax,
		"insert into nowhere values (1 / 0, @)":             api.ErrLex,
		"create table t (a int, a int, primary key (b)) ;;": api.ErrSyntax,
		"drop table nowhere" + strings.Repeat(" ", 2048):    api.ErrLong,
	} {
		for _, s := range []model.State{{}, some()} {
			if left, told := model.Text(s, x); !same(left, s) || !sameResult(told, api.Result{Err: want}) {
				t.Errorf("Text of %.60q = %s, %v, not %d", x, brief(left), told, want)
			}
		}
	}
}

// Letters, blanks, comments and the end of a text do not matter.
func TestP112TextsAsTheyAreWritten(t *testing.T) {
	left := with(some(), "e", row{num(-7)})
	for _, x := range []string{"insert into e values (-7)", "INSERT INTO E VALUES (-7);", "insert\ninto\te -- the first one\nvalues ( ( - ( 7 ) ) ) -- ;", "insert into e values (1 - 2 * 4)" + strings.Repeat(" ", 2048-32)} {
		tells(t, some(), x, 1, left)
	}
	leaves(t, with(some(), "t"), "insert into t values (1, 2, true, '; drop -- ''it''')", 1, row{num(1), num(2), yes, text("; drop -- 'it'")})
}

// Each statement sees what those ahead of it did; those with errors did nothing.
func TestP112OneAfterAnother(t *testing.T) {
	var texts []string
	var want []api.Result
	say := func(x string, r api.Result) {
		texts, want = append(texts, x), append(want, r)
	}
	seen := func(l ...row) api.Result { return api.Result{N: len(l), Rows: l} }
	wrong := func(err api.Errno) api.Result { return api.Result{Err: err} }
	say("select a from t", wrong(api.ErrTable))
	say("create table t (a int, b text, primary key (a))", api.Result{})
	say("create table t (a int, b text, primary key (a))", wrong(api.ErrTwice))
	say("select a from t", seen())
	say("insert into t values (3, 'c'), (1, 'a')", api.Result{N: 2})
	say("insert into t values (2, 'b'), (1, 'z')", wrong(api.ErrKey))
	say("select b, a from t", seen(row{text("a"), num(1)}, row{text("c"), num(3)}))
	say("insert into t values (2, 'b')", api.Result{N: 1})
	say("no statement", wrong(api.ErrSyntax))
	say("create index i on t (b)", api.Result{})
	say("create index i on t (a)", wrong(api.ErrTwice))
	say("update t set a = a + 1, b = null where a > 1", api.Result{N: 2})
	say("update t set a = 1", wrong(api.ErrKey))
	say("update t set b = 'q' where 1 / (a - 4) = 1", wrong(api.ErrZero))
	say("select * from t", wrong(api.ErrSyntax))
	say("select a, b from t order by 1 desc", seen(row{num(4), null}, row{num(3), null}, row{num(1), text("a")}))
	say("create table a (k text, primary key (k))", api.Result{})
	say("insert into a values ('a'), ('b')", api.Result{N: 2})
	say("select t.a, k from t join a on b = k", seen(row{num(1), text("a")}))
	say("delete from t where a = 3", api.Result{N: 1})
	say("delete from t where a = 3", api.Result{})
	say("select count(*) from t", seen(row{num(2)}))
	say("drop table a", api.Result{})
	say("drop table a", wrong(api.ErrTable))
	say("select a, b from t", seen(row{num(1), text("a")}, row{num(4), null}))
	say("create table a (k int, primary key (k))", api.Result{})
	say("select k from a", seen())
	left := state("create table a (k int, primary key (k))", "create table t (a int, b text, primary key (a))", "create index i on t (b)")
	left = with(left, "t", row{num(1), text("a")}, row{num(4), null})
	next, all, err := model.Texts(model.State{}, texts)
	if !same(next, left) || err != api.OK || len(all) != len(want) {
		t.Fatalf("all of them leave %s, not %s, and tell %d, %d", brief(next), brief(left), len(all), err)
	}
	var s model.State
	for i, x := range texts {
		var told api.Result
		if s, told = model.Text(s, x); !sameResult(told, want[i]) || !sameResult(all[i], want[i]) {
			t.Errorf("%s tells %v, as one of all %v, not %v", x, told, all[i], want[i])
		}
	}
	if !same(s, left) {
		t.Errorf("one by one they leave %s", brief(s))
	}
}

func TestP112HowManyTexts(t *testing.T) {
	for _, s := range []model.State{{}, some()} {
		for _, l := range [][]string{nil, {}} {
			if next, all, err := model.Texts(s, l); !same(next, s) || len(all) != 0 || err != api.OK {
				t.Errorf("none = %s, %v, %d", brief(next), all, err)
			}
		}
	}
	s := state("create table one (a int, b int, primary key (a))")
	for _, n := range []int{1, 2, 255, 256, 257, 4095, 4096} {
		var texts []string
		var want []api.Result
		var left []row
		for i := range n {
			texts = append(texts, fmt.Sprintf("insert into one values (%d, 1)", i))
			switch {
			case i%3 == 2:
				texts[i] = "insert into one values (0, 1 / 0)"
				want = append(want, api.Result{Err: api.ErrZero})
			case len(left) == 256:
				want = append(want, api.Result{Err: api.ErrFull})
			default:
				left = append(left, row{num(i), num(1)})
				want = append(want, api.Result{N: 1})
			}
		}
		next, all, err := model.Texts(s, texts)
		if !same(next, with(s, "one", left...)) || !sameResults(all, want) || err != api.OK {
			t.Errorf("%d texts = %s, %s, %d", n, brief(next), brief(all), err)
		}
	}
	for _, n := range []int{4097, 4098, 5000, 8192, 70000} {
		for _, x := range []string{"", "begin", "no statement", "insert into one values (1, 1)"} {
			next, all, err := model.Texts(s, slices.Repeat([]string{x}, n))
			if !isZero(next) || len(all) != 0 || err != api.ErrCount {
				t.Errorf("%d times %q = %s, %s, %d", n, x, brief(next), brief(all), err)
			}
		}
	}
}
