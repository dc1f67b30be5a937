package syntax

import (
	"strconv"
	"strings"

	"switchback/api"
)

// Print answers the text of a statement.
func Print(x api.Stmt) (string, api.Errno) {
	if err := Check(x); err != api.OK {
		return "", err
	}
	var p printer
	p.stmt(x)
	return p.String(), api.OK
}

// PrintExpr answers the text of an expression.
func PrintExpr(e api.Expr) (string, api.Errno) {
	if err := CheckExpr(e); err != api.OK {
		return "", err
	}
	var p printer
	p.expr(e)
	return p.String(), api.OK
}

// A printer puts texts one behind the other. It is given nothing but what may
// be.
type printer struct {
	strings.Builder
}

func (p *printer) put(texts ...string) {
	for _, text := range texts {
		p.WriteString(text)
	}
}

// putList puts the things of a list, each as put does, with between between
// them.
func putList[T any](p *printer, l []T, between string, put func(x T)) {
	for i, x := range l {
		if i > 0 {
			p.put(between)
		}
		put(x)
	}
}

// putPart puts a part of a statement, if it is there.
func putPart[T any](p *printer, words string, l []T, put func(x T)) {
	if len(l) > 0 {
		p.put(words)
		putList(p, l, ", ", put)
	}
}

func (p *printer) stmt(x api.Stmt) {
	switch x.Kind {
	case kindCreateTable:
		p.table(x)
	case kindCreateIndex:
		p.put("CREATE INDEX ", x.Index, " ON ", x.Table, " (", x.Key, ")")
	case kindDropTable:
		p.put("DROP TABLE ", x.Table)
	case kindInsert:
		p.put("INSERT INTO ", x.Table)
		putPart(p, " VALUES ", x.Rows, func(row []api.Expr) {
			p.exprs("(", row)
			p.put(")")
		})
	case kindUpdate:
		p.put("UPDATE ", x.Table)
		putPart(p, " SET ", x.Sets, func(s api.Set) {
			p.put(s.Name, " = ")
			p.expr(s.Expr)
		})
		p.exprs(" WHERE ", x.Where)
	case kindDelete:
		p.put("DELETE FROM ", x.Table)
		p.exprs(" WHERE ", x.Where)
	case kindSelect:
		p.query(x)
	case kindBegin:
		p.put("BEGIN")
	case kindCommit:
		p.put("COMMIT")
	case kindRollback:
		p.put("ROLLBACK")
	}
}

func (p *printer) table(x api.Stmt) {
	kinds := [...]string{valueNumber: "INT", valueTruth: "BOOL", valueText: "TEXT"}
	p.put("CREATE TABLE ", x.Table, " (")
	putList(p, x.Columns, ", ", func(c api.Column) {
		p.put(c.Name, " ", kinds[c.Kind])
		if c.NotNull {
			p.put(" NOT NULL")
		}
	})
	p.put(", PRIMARY KEY (", x.Key, "))")
}

func (p *printer) query(x api.Stmt) {
	p.exprs("SELECT ", x.Items)
	p.put(" FROM ", x.Table)
	if x.Join != "" {
		p.put(" JOIN ", x.Join)
	}
	p.exprs(" ON ", x.On)
	p.exprs(" WHERE ", x.Where)
	p.exprs(" GROUP BY ", x.Group)
	putPart(p, " ORDER BY ", x.Order, func(o api.Order) {
		p.put(strconv.Itoa(o.N))
		if o.Desc {
			p.put(" DESC")
		}
	})
	if x.Limit != noLimit {
		p.put(" LIMIT ", strconv.Itoa(x.Limit))
	}
}

func (p *printer) exprs(words string, l []api.Expr) {
	putPart(p, words, l, func(e api.Expr) { p.expr(e) })
}

func (p *printer) expr(e api.Expr) {
	switch e.Op {
	case opLiteral:
		p.literal(e.Value)
		return
	case opColumn:
		p.column(e)
		return
	}
	form, _ := formOfOp(e.Op)
	p.put(form.ahead)
	putList(p, e.Args, form.between, func(arg api.Expr) { p.expr(arg) })
	p.put(form.behind)
}

func (p *printer) literal(v api.Value) {
	truths := [...]string{"FALSE", "TRUE"}
	switch v.Kind {
	case valueNull:
		p.put("NULL")
	case valueNumber:
		p.put(strconv.Itoa(v.N))
	case valueTruth:
		p.put(truths[v.N])
	case valueText:
		p.put("'", strings.ReplaceAll(v.Text, "'", "''"), "'")
	}
}

func (p *printer) column(e api.Expr) {
	if e.Table != "" {
		p.put(e.Table, ".")
	}
	p.put(e.Name)
}
