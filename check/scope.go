package check

import (
	"slices"
	"strings"

	"switchback/api"
	"switchback/catalog"
)

// A scope is the tables whose columns a row has, one table's behind the
// other's. It may be of tables that may not be.
type scope []catalog.Table

// resolved is an expression as it is run, and its kind.
type resolved struct {
	expr api.Expr
	kind int
}

// resolve resolves an expression whose columns are the scope's.
func (s scope) resolve(e api.Expr, aggregates bool) resolved {
	return resolve(e, s.column, aggregates)
}

// constant resolves an expression that hangs on no row: a column in it is at
// fault at its turn, whatever it would be in a scope.
func constant(e api.Expr) resolved {
	return resolve(e, func(api.Expr) resolved { panic(api.ErrColumn) }, false)
}

// resolve resolves an expression that may be, each part behind its Args, its
// columns by column; aggregates tells whether there may be any. At the first
// part that is at fault it panics with the error's number.
func resolve(e api.Expr, column func(e api.Expr) resolved, aggregates bool) resolved {
	switch e.Op {
	case opLiteral:
		return literal(e.Value)
	case opColumn:
		return column(e)
	}
	done := api.Expr{Op: e.Op}
	var kinds []int
	for _, arg := range e.Args {
		r := resolve(arg, column, aggregates && !isAggregate(e.Op))
		done.Args = append(done.Args, r.expr)
		kinds = append(kinds, r.kind)
	}
	kind := kindOf(e.Op, kinds...)
	if isAggregate(e.Op) && !aggregates {
		panic(api.ErrArg)
	}
	return resolved{done, kind}
}

// literal answers it in memory of its own, its text too.
func literal(v api.Value) resolved {
	v.Text = strings.Clone(v.Text)
	return resolved{api.Expr{Op: opLiteral, Value: v}, v.Kind}
}

// column answers the column that e names by its place in the row.
func (s scope) column(e api.Expr) resolved {
	at := s.tableOf(e)
	column, err := catalog.Column(s[at], e.Name)
	refuse(err)
	place := column
	for _, t := range s[:at] {
		place += len(t.Columns)
	}
	done := api.Expr{Op: opColumn, Value: api.Value{Kind: kindNumber, N: place}}
	return resolved{done, s[at].Columns[column].Kind}
}

// tableOf answers the place of the table in which the column that e names is
// looked for: without a Table, the only one that has it.
func (s scope) tableOf(e api.Expr) int {
	if e.Table != "" {
		at := slices.IndexFunc(s, func(t catalog.Table) bool { return t.Name == e.Table })
		if at < 0 {
			panic(api.ErrTable)
		}
		return at
	}
	var have []int
	for i, t := range s {
		if _, err := catalog.Column(t, e.Name); err == api.OK {
			have = append(have, i)
		}
	}
	if len(have) != 1 {
		panic(api.ErrColumn)
	}
	return have[0]
}

// anyOutside tells whether a part that stands in no aggregate is so.
func anyOutside(l []api.Expr, is func(e api.Expr) bool) bool {
	for _, e := range l {
		if is(e) || !isAggregate(e.Op) && anyOutside(e.Args, is) {
			return true
		}
	}
	return false
}
