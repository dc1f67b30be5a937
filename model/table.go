package model

import (
	"slices"

	"switchback/api"
	"switchback/catalog"
	"switchback/eval"
	"switchback/query"
	"switchback/rows"
)

// A table is a state's, with its rows.
type table struct {
	definition catalog.Table
	rows       [][]api.Value
}

// changed answers the rows that x leaves, an insert, an update or a delete, and
// of how many rows it speaks.
func (t table) changed(x api.Stmt) ([][]api.Value, int, api.Errno) {
	switch x.Kind {
	case kindInsert:
		return t.inserted(x.Rows)
	case kindUpdate:
		return t.updated(x)
	}
	return t.deleted(x)
}

func (t table) inserted(lists [][]api.Expr) ([][]api.Value, int, api.Errno) {
	var more [][]api.Value
	for _, l := range lists {
		row, err := reckoned(l, nil)
		if err != api.OK {
			return nil, 0, err
		}
		more = append(more, row)
	}
	l, err := rows.Insert(t.definition, t.rows, more)
	return l, len(more), err
}

func (t table) updated(x api.Stmt) ([][]api.Value, int, api.Errno) {
	old, err := query.Filter(t.rows, x.Where)
	if err != api.OK {
		return nil, 0, err
	}
	var next [][]api.Value
	for _, row := range old {
		row, err := t.with(row, x.Sets)
		if err != api.OK {
			return nil, 0, err
		}
		next = append(next, row)
	}
	l, err := rows.Update(t.definition, t.rows, t.keysOf(old), next)
	return l, len(old), err
}

func (t table) deleted(x api.Stmt) ([][]api.Value, int, api.Errno) {
	old, err := query.Filter(t.rows, x.Where)
	if err != api.OK {
		return nil, 0, err
	}
	l, err := rows.Delete(t.definition, t.rows, t.keysOf(old))
	return l, len(old), err
}

// with answers a row with the values of the Sets, all of which are reckoned
// over the row as it is.
func (t table) with(row []api.Value, sets []api.Set) ([]api.Value, api.Errno) {
	next := slices.Clone(row)
	for _, s := range sets {
		at, err := catalog.Column(t.definition, s.Name)
		if err != api.OK {
			return nil, err
		}
		next[at], err = eval.Eval(s.Expr, row)
		if err != api.OK {
			return nil, err
		}
	}
	return next, api.OK
}

func (t table) keysOf(l [][]api.Value) []api.Value {
	var keys []api.Value
	for _, row := range l {
		keys = append(keys, row[t.definition.Key])
	}
	return keys
}

// reckoned answers the values of l over a row.
func reckoned(l []api.Expr, row []api.Value) ([]api.Value, api.Errno) {
	var values []api.Value
	for _, e := range l {
		v, err := eval.Eval(e, row)
		if err != api.OK {
			return nil, err
		}
		values = append(values, v)
	}
	return values, api.OK
}
