package model_test

import (
	"fmt"
	"slices"
	"testing"

	"switchback/api"
	"switchback/catalog"
	"switchback/model"
)

// made is s with one more table, without rows.
func made(s model.State, x string) model.State {
	at := 0
	for _, t := range s.Catalog.Tables {
		if t.Name < stmt(x).Table {
			at++
		}
	}
	next, err := catalog.Create(s.Catalog, stmt(x))
	s.Rows = slices.Insert(slices.Clone(s.Rows), at, []row(nil))
	return defined(s, next, err)
}

// gone is s without a table, and without its rows.
func gone(s model.State, name string) model.State {
	at := place(s, name)
	next, err := catalog.Drop(s.Catalog, name)
	s.Rows = slices.Delete(slices.Clone(s.Rows), at, at+1)
	return defined(s, next, err)
}

func TestP111CreateTable(t *testing.T) {
	tells(t, model.State{}, "create table t (a int, primary key (a))", 0, model.State{
		Catalog: catalog.State{Tables: []catalog.Table{{Name: "t", Columns: []api.Column{{Name: "a", Kind: 1, NotNull: true}}}}},
		Rows:    [][][]api.Value{nil},
	})
	// Ahead of all others, between each two of them, behind them: the others keep their rows.
	for _, name := range []string{"a", "d", "ee", "s", "ta", "tt", "u_", "z", "_"} {
		x := fmt.Sprintf("create table %s (a text, b bool not null, primary key (a))", name)
		s := made(some(), x)
		tells(t, some(), x, 0, s)
		if len(rowsOf(s, name)) != 0 || len(rowsOf(s, "t")) != 5 || len(rowsOf(s, "u")) != 3 {
			t.Errorf("%s: the test itself is wrong", x)
		}
		next, told := model.Text(s, "insert into "+name+" values ('new', true)")
		if told.Err != api.OK || !same(next, with(s, name, row{text("new"), yes})) {
			t.Errorf("%s, and a row: %s, %v", x, brief(next), told)
		}
	}
}

func TestP111CreateTableErrors(t *testing.T) {
	for _, name := range []string{"e", "t", "u"} {
		refuses(t, some(), "create table "+name+" (z int, primary key (z))", api.ErrTwice)
	}
	refuses(t, some(), "create table z (a int, a text, primary key (a))", api.ErrTwice)
	refuses(t, some(), "create table z (a int, b text, primary key (c))", api.ErrColumn)
	refuses(t, full(2), "create table z (a int, primary key (a))", api.ErrFull)
	seven := gone(full(2), "t3")
	x := "create table z (a int, primary key (a))"
	tells(t, seven, x, 0, made(seven, x))
	// Which goes ahead where more than one fits.
	refuses(t, full(2), "create table t3 (a int, primary key (b))", api.ErrTwice)
	refuses(t, full(2), "create table z (a int, a int, primary key (b))", api.ErrTwice)
	refuses(t, full(2), "create table z (a int, primary key (b))", api.ErrColumn)
	refusesStmt(t, full(2), api.Stmt{Kind: 1, Table: "t0", Columns: []api.Column{{Name: "a", Kind: 4}}, Key: "b"}, api.ErrState)
}

func TestP111CreateIndex(t *testing.T) {
	for _, x := range []string{"create index new on e (k)", "create index new on t (a)", "create index new on t (c)", "create index new on u (d)", "create index t on t (n)"} {
		next, err := catalog.Add(some().Catalog, stmt(x))
		tells(t, some(), x, 0, defined(some(), next, err))
	}
	refuses(t, some(), "create index i on nowhere (a)", api.ErrTable)
	refuses(t, some(), "create index i on t (nothing)", api.ErrColumn)
	refuses(t, some(), "create index i on t (a)", api.ErrTwice)
	refuses(t, some(), "create index j on t (a)", api.ErrTwice)
	refuses(t, full(2), "create index new on t3 (c1)", api.ErrFull)
	refuses(t, full(2), "create index i0_0 on t3 (c1)", api.ErrTwice)
	refuses(t, full(2), "create index i0_0 on t3 (d)", api.ErrColumn)
	refusesStmt(t, some(), api.Stmt{Kind: 2, Index: "i", Table: "nowhere"}, api.ErrState)
}

func TestP111DropTable(t *testing.T) {
	for _, name := range []string{"e", "t", "u"} {
		tells(t, some(), "drop table "+name, 0, gone(some(), name))
	}
	for i := range 8 {
		name := fmt.Sprint("t", i)
		tells(t, full(5), "drop table "+name, 0, gone(full(5), name))
		// One that is made anew has no rows.
		x := "create table " + name + " (c0 int, primary key (c0))"
		again, all, err := model.Texts(full(5), []string{"drop table " + name, x})
		if want := made(gone(full(5), name), x); !same(again, want) || len(rowsOf(want, name)) != 0 || !sameResults(all, make([]api.Result, 2)) || err != api.OK {
			t.Errorf("%s, dropped and made: %s, %v, %d", name, brief(again), all, err)
		}
	}
	one := state("create table t (a int, primary key (a))")
	tells(t, with(one, "t", row{num(1)}), "drop table t", 0, model.State{})
	refuses(t, model.State{}, "drop table t", api.ErrTable)
	for _, name := range []string{"a", "i", "s", "tt", "z"} {
		refuses(t, some(), "drop table "+name, api.ErrTable)
	}
}

// Begin, commit and rollback do nothing, and ask for nothing.
func TestP111TransactionsAreNothing(t *testing.T) {
	for _, s := range []model.State{{}, some(), full(3)} {
		for _, x := range []string{"begin", "commit", "rollback", "BEGIN;"} {
			tells(t, s, x, 0, s)
		}
	}
	texts := []string{"begin", "begin", "insert into e values (1)", "rollback", "rollback", "select k from e", "commit", "commit"}
	next, all, err := model.Texts(some(), texts)
	want := []api.Result{{}, {}, {N: 1}, {}, {}, {N: 1, Rows: []row{{num(1)}}}, {}, {}}
	if !same(next, with(some(), "e", row{num(1)})) || !sameResults(all, want) || err != api.OK {
		t.Errorf("%v = %s, %v, %d", texts, brief(next), all, err)
	}
	for kind := 8; kind <= 10; kind++ {
		runs(t, "as it is", some(), api.Stmt{Kind: kind}, api.Result{}, some())
		refusesStmt(t, some(), api.Stmt{Kind: kind, Limit: 1}, api.ErrState)
		refusesStmt(t, some(), api.Stmt{Kind: kind, Table: "t"}, api.ErrState)
	}
}

// What check.Stmt tells of a statement goes ahead of all else but the state's.
func TestP111StatementsThatMayNotBe(t *testing.T) {
	for err, l := range wrongStmts() {
		for _, x := range l {
			refusesStmt(t, model.State{}, x, err)
			refusesStmt(t, some(), x, err)
			refusesStmt(t, full(256), x, err)
		}
	}
}
