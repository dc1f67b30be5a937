package model

import (
	"slices"

	"switchback/api"
	"switchback/catalog"
	"switchback/check"
	"switchback/parse"
	"switchback/query"
)

// The Kinds of an api.Stmt. What is behind the last one of these does nothing
// where nobody else is.
const (
	kindCreateTable = iota + 1
	kindCreateIndex
	kindDropTable
	kindInsert
	kindUpdate
	kindDelete
	kindSelect
)

// read runs the statement that text is.
func read(s State, text string) (State, api.Result) {
	x, _, err := parse.Parse(text)
	if err != api.OK {
		return s, refused(err)
	}
	return run(s, x)
}

// run answers the state that follows s, which may be, and what x tells: s
// itself, where x has an error. The two share memory, so neither of them is
// ever written into.
func run(s State, x api.Stmt) (State, api.Result) {
	typed, err := check.Stmt(s.Catalog, x)
	if err != api.OK {
		return s, refused(err)
	}
	next, told, err := following(s, typed)
	if err != api.OK {
		return s, refused(err)
	}
	return next, told
}

func following(s State, x check.Typed) (State, api.Result, api.Errno) {
	switch x.Stmt.Kind {
	case kindCreateTable:
		return create(s, x.Stmt)
	case kindCreateIndex:
		return index(s, x.Stmt)
	case kindDropTable:
		return drop(s, x.Stmt)
	case kindInsert, kindUpdate, kindDelete:
		return change(s, x)
	case kindSelect:
		return ask(s, x)
	}
	return s, api.Result{}, api.OK
}

func create(s State, x api.Stmt) (State, api.Result, api.Errno) {
	made, err := catalog.Create(s.Catalog, x)
	if err != api.OK {
		return State{}, api.Result{}, err
	}
	at, err := catalog.Find(made, x.Table)
	lists := slices.Insert(slices.Clone(s.Rows), at, [][]api.Value{})
	return State{made, lists}, api.Result{}, err
}

func index(s State, x api.Stmt) (State, api.Result, api.Errno) {
	made, err := catalog.Add(s.Catalog, x)
	return State{made, s.Rows}, api.Result{}, err
}

func drop(s State, x api.Stmt) (State, api.Result, api.Errno) {
	at, err := catalog.Find(s.Catalog, x.Table)
	if err != api.OK {
		return State{}, api.Result{}, err
	}
	left, err := catalog.Drop(s.Catalog, x.Table)
	lists := slices.Delete(slices.Clone(s.Rows), at, at+1)
	return State{left, lists}, api.Result{}, err
}

func change(s State, x check.Typed) (State, api.Result, api.Errno) {
	t := table{s.Catalog.Tables[x.Table], s.Rows[x.Table]}
	l, n, err := t.changed(x.Stmt)
	lists := slices.Clone(s.Rows)
	lists[x.Table] = l
	return State{s.Catalog, lists}, api.Result{N: n}, err
}

func ask(s State, x check.Typed) (State, api.Result, api.Errno) {
	var joined [][]api.Value
	if x.Join >= 0 {
		joined = s.Rows[x.Join]
	}
	l, err := query.Select(x, s.Rows[x.Table], joined)
	return s, api.Result{N: len(l), Rows: l}, err
}
