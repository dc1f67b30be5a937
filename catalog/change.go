package catalog

import (
	"slices"
	"strings"

	"switchback/api"
	"switchback/syntax"
)

// Create answers s with the table that x makes.
func Create(s State, x api.Stmt) (State, api.Errno) {
	if err := asked(s, x, kindCreateTable); err != api.OK {
		return State{}, err
	}
	at, is := placeOf(s, x.Table)
	if is || !areNew(x.Columns, names{}, columnName) {
		return State{}, api.ErrTwice
	}
	t := copyOf(Table{Name: x.Table, Columns: x.Columns})
	key, err := Column(t, x.Key)
	if err != api.OK {
		return State{}, err
	}
	if len(s.Tables) == api.MaxTables {
		return State{}, api.ErrFull
	}
	t.Key, t.Columns[key].NotNull = key, true
	next := copyOfAll(s)
	next.Tables = slices.Insert(next.Tables, at, t)
	return next, api.OK
}

// Add answers s with the index that x makes.
func Add(s State, x api.Stmt) (State, api.Errno) {
	if err := asked(s, x, kindCreateIndex); err != api.OK {
		return State{}, err
	}
	at, err := Find(s, x.Table)
	if err != api.OK {
		return State{}, err
	}
	column, err := Column(s.Tables[at], x.Key)
	if err != api.OK {
		return State{}, err
	}
	if slices.ContainsFunc(s.Tables, func(t Table) bool { return hasIndex(t, x.Index) }) {
		return State{}, api.ErrTwice
	}
	if len(s.Tables[at].Indexes) == api.MaxIndex {
		return State{}, api.ErrFull
	}
	next := copyOfAll(s)
	t := &next.Tables[at]
	t.Indexes = append(t.Indexes, Index{Name: strings.Clone(x.Index), Column: column})
	return next, api.OK
}

// Drop answers s without the table of that name.
func Drop(s State, name string) (State, api.Errno) {
	at, err := Find(s, name)
	if err != api.OK {
		return State{}, err
	}
	next := copyOfAll(s)
	next.Tables = slices.Delete(next.Tables, at, at+1)
	return next, api.OK
}

// asked tells whether s may be, and x is a statement of that Kind that may be.
func asked(s State, x api.Stmt, kind int) api.Errno {
	if err := Check(s); err != api.OK {
		return err
	}
	if x.Kind != kind || syntax.Check(x) != api.OK {
		return api.ErrArg
	}
	return api.OK
}

func hasIndex(t Table, name string) bool {
	return slices.ContainsFunc(t.Indexes, func(x Index) bool {
		return x.Name == name
	})
}

func copyOfAll(s State) State {
	var next State
	for _, t := range s.Tables {
		next.Tables = append(next.Tables, copyOf(t))
	}
	return next
}

// copyOf answers t in memory of its own, its texts too.
func copyOf(t Table) Table {
	t.Name = strings.Clone(t.Name)
	t.Columns = slices.Clone(t.Columns)
	for i, c := range t.Columns {
		t.Columns[i].Name = strings.Clone(c.Name)
	}
	t.Indexes = slices.Clone(t.Indexes)
	for i, x := range t.Indexes {
		t.Indexes[i].Name = strings.Clone(x.Name)
	}
	return t
}
