package check

import (
	"strings"

	"switchback/api"
	"switchback/catalog"
)

// The Kinds of an api.Stmt.
const (
	kindCreateTable = iota + 1
	kindCreateIndex
	kindDropTable
	kindInsert
	kindUpdate
	kindDelete
	kindSelect
	kindBegin
	kindCommit
	kindRollback
)

// none is the place of what is not there.
const none = -1

// A checker goes through a statement that may be, in the order of the
// chapter's errors, and puts together what is answered. At what is at fault it
// panics with the error's number.
type checker struct {
	state catalog.State
	given api.Stmt
	scope scope
	typed Typed
}

func typed(s catalog.State, x api.Stmt) Typed {
	c := checker{state: s, given: x}
	c.typed = Typed{Stmt: withoutExprs(x), Table: none, Join: none, Group: none}
	switch x.Kind {
	case kindInsert, kindUpdate, kindDelete, kindSelect:
		c.tables()
		c.parts()
	}
	return c.typed
}

// withoutExprs answers x in memory of its own, its texts too, but for its
// expressions: those are put in as they are resolved.
func withoutExprs(x api.Stmt) api.Stmt {
	y := api.Stmt{Kind: x.Kind, Limit: x.Limit}
	y.Order = append(y.Order, x.Order...)
	y.Table, y.Join = strings.Clone(x.Table), strings.Clone(x.Join)
	y.Key, y.Index = strings.Clone(x.Key), strings.Clone(x.Index)
	for _, c := range x.Columns {
		c.Name = strings.Clone(c.Name)
		y.Columns = append(y.Columns, c)
	}
	return y
}

// tables makes the scope of all that the statement has.
func (c *checker) tables() {
	c.typed.Table = c.enter(c.given.Table)
	if c.given.Join == "" {
		return
	}
	c.typed.Join = c.enter(c.given.Join)
	if c.typed.Join == c.typed.Table {
		panic(api.ErrTwice)
	}
}

// enter puts a table into the scope, and answers its place in the catalog.
func (c *checker) enter(name string) int {
	at, err := catalog.Find(c.state, name)
	refuse(err)
	c.scope = append(c.scope, c.state.Tables[at])
	return at
}

func (c *checker) parts() {
	x := &c.typed.Stmt
	switch x.Kind {
	case kindInsert:
		x.Rows = c.rows()
	case kindUpdate:
		x.Sets = c.sets()
		fallthrough
	case kindDelete:
		x.Where = c.condition(c.given.Where)
	case kindSelect:
		c.query(x)
	}
}

func (c *checker) rows() [][]api.Expr {
	columns := c.scope[0].Columns
	var rows [][]api.Expr
	for _, given := range c.given.Rows {
		if len(given) != len(columns) {
			panic(api.ErrCount)
		}
		var row []api.Expr
		for i, e := range given {
			done := constant(e)
			fit(columns[i].Kind, done.kind)
			row = append(row, done.expr)
		}
		rows = append(rows, row)
	}
	return rows
}

func (c *checker) sets() []api.Set {
	columns := c.scope[0].Columns
	places := map[int]struct{}{} // the columns that were set
	var sets []api.Set
	for _, s := range c.given.Sets {
		at, err := catalog.Column(c.scope[0], s.Name)
		refuse(err)
		if _, is := places[at]; is {
			panic(api.ErrTwice)
		}
		places[at] = struct{}{}
		e := c.expr(s.Expr, columns[at].Kind)
		sets = append(sets, api.Set{Name: strings.Clone(s.Name), Expr: e})
	}
	return sets
}

// expr answers an expression of that kind.
func (c *checker) expr(e api.Expr, kind int) api.Expr {
	done := c.scope.resolve(e, false)
	fit(kind, done.kind)
	return done.expr
}

// condition answers one, if there is one.
func (c *checker) condition(l []api.Expr) []api.Expr {
	var done []api.Expr
	for _, e := range l {
		done = append(done, c.expr(e, kindTruth))
	}
	return done
}

// query puts the parts of a select into x.
func (c *checker) query(x *api.Stmt) {
	x.On = c.condition(c.given.On)
	x.Where = c.condition(c.given.Where)
	for _, e := range c.given.Group {
		column := c.scope.column(e).expr
		c.typed.Group = column.Value.N
		x.Group = append(x.Group, column)
	}
	for _, e := range c.given.Items {
		item := c.scope.resolve(e, true)
		x.Items = append(x.Items, item.expr)
		c.typed.Kinds = append(c.typed.Kinds, item.kind)
	}
	if c.isGathered() && c.strays() {
		panic(api.ErrArg)
	}
	for _, o := range x.Order {
		if o.N > len(x.Items) {
			panic(api.ErrRange)
		}
	}
}

// isGathered tells whether a select's rows are put into groups.
func (c *checker) isGathered() bool {
	return c.typed.Group != none || anyOutside(c.typed.Stmt.Items, func(e api.Expr) bool {
		return isAggregate(e.Op)
	})
}

// strays tells whether a column that a group has no one value of stands in no
// aggregate.
func (c *checker) strays() bool {
	return anyOutside(c.typed.Stmt.Items, func(e api.Expr) bool {
		return e.Op == opColumn && e.Value.N != c.typed.Group
	})
}
