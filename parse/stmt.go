package parse

import "switchback/api"

// The Kinds of an api.Stmt.
const (
	kindCreateTable = iota + 1
	kindCreateIndex
	kindDropTable
	kindInsert
	kindUpdate
	kindDelete
	kindSelect
	kindBegin
	kindCommit
	kindRollback
)

// noLimit is the Limit of a select that has none.
const noLimit = -1

// ended reads a statement, and the ; that may end it.
func (p *parser) ended() api.Stmt {
	x := p.stmt()
	p.take(";")
	return x
}

func (p *parser) stmt() api.Stmt {
	switch {
	case p.take("create"):
		return p.creation()
	case p.take("drop", "table"):
		return api.Stmt{Kind: kindDropTable, Table: p.name()}
	case p.take("insert", "into"):
		return p.insertion()
	case p.take("update"):
		return p.update()
	case p.take("delete", "from"):
		x := api.Stmt{Kind: kindDelete, Table: p.name()}
		x.Where = p.where()
		return x
	case p.take("select"):
		return p.query()
	case p.take("begin"):
		return api.Stmt{Kind: kindBegin}
	case p.take("commit"):
		return api.Stmt{Kind: kindCommit}
	case p.take("rollback"):
		return api.Stmt{Kind: kindRollback}
	}
	panic(p.fault(api.ErrSyntax))
}

func (p *parser) creation() api.Stmt {
	if p.take("index") {
		return p.index()
	}
	p.need("table")
	return p.table()
}

func (p *parser) index() api.Stmt {
	x := api.Stmt{Kind: kindCreateIndex, Index: p.name()}
	p.need("on")
	x.Table = p.name()
	x.Key = p.key()
	return x
}

func (p *parser) table() api.Stmt {
	x := api.Stmt{Kind: kindCreateTable, Table: p.name()}
	p.need("(")
	// A comma stands behind the last column, too: ahead of the key.
	for more := true; more; more = !p.take("primary", "key") {
		x.Columns = append(x.Columns, p.column())
		p.need(",")
	}
	x.Key = p.key()
	p.need(")")
	return x
}

// key reads a column's name in parentheses, which are no expression's.
func (p *parser) key() string {
	p.need("(")
	name := p.name()
	p.need(")")
	return name
}

// column reads a column as a table's definition has it.
func (p *parser) column() api.Column {
	c := api.Column{Name: p.name(), Kind: p.kind()}
	c.NotNull = p.take("not", "null")
	return c
}

func (p *parser) kind() int {
	words := [...]string{valueNumber: "int", valueTruth: "bool", valueText: "text"}
	for kind := valueNumber; kind <= valueText; kind++ {
		if p.take(words[kind]) {
			return kind
		}
	}
	panic(p.fault(api.ErrSyntax))
}

func (p *parser) insertion() api.Stmt {
	x := api.Stmt{Kind: kindInsert, Table: p.name()}
	p.need("values")
	x.Rows = list(p, func() []api.Expr {
		p.need("(")
		row := list(p, p.expr)
		p.need(")")
		return row
	})
	return x
}

func (p *parser) update() api.Stmt {
	x := api.Stmt{Kind: kindUpdate, Table: p.name()}
	p.need("set")
	x.Sets = list(p, func() api.Set {
		name := p.name()
		p.need("=")
		return api.Set{Name: name, Expr: p.expr()}
	})
	x.Where = p.where()
	return x
}

func (p *parser) query() api.Stmt {
	x := api.Stmt{Kind: kindSelect, Limit: noLimit}
	x.Items = list(p, p.expr)
	p.need("from")
	x.Table = p.name()
	if p.take("join") {
		x.Join = p.name()
		p.need("on")
		x.On = []api.Expr{p.expr()}
	}
	x.Where = p.where()
	if p.take("group", "by") {
		x.Group = []api.Expr{p.group()}
	}
	if p.take("order", "by") {
		x.Order = list(p, func() api.Order {
			return api.Order{N: p.number(), Desc: p.take("desc")}
		})
	}
	if p.take("limit") {
		x.Limit = p.number()
	}
	return x
}

// where answers one condition, or none.
func (p *parser) where() []api.Expr {
	if !p.take("where") {
		return nil
	}
	return []api.Expr{p.expr()}
}
