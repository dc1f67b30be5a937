package syntax

import "switchback/api"

// What api has no limit for.
const (
	maxOrders = 8
	noLimit   = -1
	maxLimit  = 1 << 31
)

// Check tells whether x may be.
func Check(x api.Stmt) api.Errno {
	if x.Kind < kindCreateTable || x.Kind > kindRollback {
		return api.ErrKind
	}
	if !isFormed(x) {
		return api.ErrState
	}
	for e := range expressions(x) {
		if err := CheckExpr(e); err != api.OK {
			return err
		}
	}
	// The Group is the last of the expressions, so this is asked in its order.
	if len(x.Group) > 0 && x.Group[0].Op != opColumn {
		return api.ErrState
	}
	return api.OK
}

// A span is of numbers, both ends in it. The zero one is of 0 alone.
type span struct {
	least int
	most  int
}

func (s span) has(n int) bool {
	return n >= s.least && n <= s.most
}

// hasName tells whether a text is as many names as the span has: one, or none.
func (s span) hasName(text string) bool {
	if text == "" {
		return s.has(0)
	}
	return s.has(1) && Name(text)
}

// A form tells how many a statement has in each field. Those that it leaves
// out are fields that its kind does not name.
type form struct {
	table   span
	key     span
	index   span
	join    span
	columns span
	rows    span
	sets    span
	items   span
	where   span
	group   span
	order   span
	limit   span
}

func formOf(kind int) form {
	one, maybe := span{1, 1}, span{0, 1}
	width, length := span{1, api.MaxCols}, span{1, api.MaxList}
	forms := [...]form{
		kindCreateTable: {table: one, columns: width, key: one},
		kindCreateIndex: {table: one, index: one, key: one},
		kindDropTable:   {table: one},
		kindInsert:      {table: one, rows: length},
		kindUpdate:      {table: one, sets: width, where: maybe},
		kindDelete:      {table: one, where: maybe},
		kindSelect: {table: one, join: maybe, items: length, where: maybe, group: maybe,
			order: span{0, maxOrders}, limit: span{noLimit, maxLimit}},
		kindBegin:    {},
		kindCommit:   {},
		kindRollback: {},
	}
	return forms[kind]
}

// isFormed tells whether x may be, but for its expressions.
func isFormed(x api.Stmt) bool {
	f, on := formOf(x.Kind), span{}
	if x.Join != "" {
		on = span{1, 1}
	}
	named := f.table.hasName(x.Table) && f.key.hasName(x.Key) && f.index.hasName(x.Index) && f.join.hasName(x.Join)
	counted := f.columns.has(len(x.Columns)) && f.rows.has(len(x.Rows)) && f.sets.has(len(x.Sets)) &&
		f.items.has(len(x.Items)) && on.has(len(x.On)) && f.where.has(len(x.Where)) &&
		f.group.has(len(x.Group)) && f.order.has(len(x.Order)) && f.limit.has(x.Limit)
	return named && counted && all(x.Columns, isColumn) && all(x.Rows, isRow) && all(x.Sets, isSet) && all(x.Order, isOrder)
}

func all[T any](l []T, is func(x T) bool) bool {
	for _, x := range l {
		if !is(x) {
			return false
		}
	}
	return true
}

func isColumn(c api.Column) bool {
	return Name(c.Name) && span{valueNumber, valueText}.has(c.Kind)
}

func isRow(row []api.Expr) bool {
	return span{1, api.MaxCols}.has(len(row))
}

func isSet(s api.Set) bool {
	return Name(s.Name)
}

func isOrder(o api.Order) bool {
	return span{1, api.MaxList}.has(o.N)
}
