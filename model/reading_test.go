package model_test

import (
	"fmt"
	"maps"
	"slices"
	"strings"
	"testing"

	"switchback/api"
	"switchback/catalog"
	"switchback/check"
	"switchback/eval"
	"switchback/model"
	"switchback/parse"
	"switchback/query"
	"switchback/value"
)

// A page is a table as the second reading has it: its rows lie by their keys.
type page struct {
	columns []api.Column
	key     int
	indexes []catalog.Index
	rows    map[api.Value]row
}

// A book is a second reading of a state: pages by the names of their tables. What is on a page is never changed: another one is laid in its place.
type book map[string]page

func (b book) names() []string { return slices.Sorted(maps.Keys(b)) }

// sorted are a page's rows, by their keys.
func (p page) sorted() []row {
	var l []row
	for _, key := range slices.SortedFunc(maps.Keys(p.rows), value.Order) {
		l = append(l, p.rows[key])
	}
	return l
}

func (b book) state() model.State {
	var s model.State
	for _, name := range b.names() {
		p := b[name]
		s.Catalog.Tables = append(s.Catalog.Tables, catalog.Table{Name: name, Columns: p.columns, Key: p.key, Indexes: p.indexes})
		s.Rows = append(s.Rows, p.sorted())
	}
	return s
}

// bookOf is the book of a state.
func bookOf(s model.State) book {
	b := book{}
	for i, t := range s.Catalog.Tables {
		p := page{t.Columns, t.Key, t.Indexes, map[api.Value]row{}}
		for _, r := range s.Rows[i] {
			p.rows[r[t.Key]] = r
		}
		b[t.Name] = p
	}
	return b
}

// run is a second reading of Run: it changes the book, if there is no error.
func (b book) run(x api.Stmt) api.Result {
	typed, err := check.Stmt(b.state().Catalog, x)
	if err != api.OK {
		return api.Result{Err: err}
	}
	var told api.Result
	switch x.Kind {
	case 1:
		told.Err = b.create(x)
	case 2:
		told.Err = b.index(x)
	case 3:
		told.Err = b.drop(x)
	case 4:
		told.N, told.Err = b.insert(typed.Stmt)
	case 5, 6:
		told.N, told.Err = b.update(typed.Stmt)
	case 7:
		var more []row
		if x.Join != "" {
			more = b[x.Join].sorted()
		}
		told.Rows, told.Err = query.Select(typed, b[x.Table].sorted(), more)
		told.N = len(told.Rows)
	}
	if told.Err != api.OK {
		return api.Result{Err: told.Err}
	}
	return told
}

func (b book) create(x api.Stmt) api.Errno {
	if _, is := b[x.Table]; is {
		return api.ErrTwice
	}
	places := map[string]int{}
	for i, c := range x.Columns {
		places[c.Name] = i
	}
	key, is := places[x.Key]
	switch {
	case len(places) < len(x.Columns):
		return api.ErrTwice
	case !is:
		return api.ErrColumn
	case len(b) == 8:
		return api.ErrFull
	}
	columns := slices.Clone(x.Columns)
	columns[key].NotNull = true
	b[x.Table] = page{columns: columns, key: key}
	return api.OK
}

func (b book) index(x api.Stmt) api.Errno {
	p, is := b[x.Table]
	if !is {
		return api.ErrTable
	}
	at := p.place(x.Key)
	if at < 0 {
		return api.ErrColumn
	}
	for _, q := range b {
		for _, i := range q.indexes {
			if i.Name == x.Index {
				return api.ErrTwice
			}
		}
	}
	if len(p.indexes) == 4 {
		return api.ErrFull
	}
	p.indexes = append(slices.Clone(p.indexes), catalog.Index{Name: x.Index, Column: at})
	b[x.Table] = p
	return api.OK
}

// place is that of a column, or below 0.
func (p page) place(name string) int {
	return slices.IndexFunc(p.columns, func(c api.Column) bool { return c.Name == name })
}

func (b book) drop(x api.Stmt) api.Errno {
	if _, is := b[x.Table]; !is {
		return api.ErrTable
	}
	delete(b, x.Table)
	return api.OK
}

func (b book) insert(x api.Stmt) (int, api.Errno) {
	var l []row
	for _, exprs := range x.Rows {
		var r row
		for _, e := range exprs {
			v, err := eval.Eval(e, nil)
			if err != api.OK {
				return 0, err
			}
			r = append(r, v)
		}
		l = append(l, r)
	}
	p := b[x.Table]
	return len(l), b.lay(x.Table, p, maps.Clone(p.rows), l)
}

// lay puts rows beside those that are left, if they may stand there.
func (b book) lay(name string, p page, left map[api.Value]row, l []row) api.Errno {
	if left == nil {
		left = map[api.Value]row{}
	}
	for _, r := range l {
		for i, c := range p.columns {
			if c.NotNull && r[i] == null {
				return api.ErrNull
			}
		}
		if _, is := left[r[p.key]]; is {
			return api.ErrKey
		}
		if len(left) == 256 {
			return api.ErrFull
		}
		left[r[p.key]] = r
	}
	p.rows = left
	b[name] = p
	return api.OK
}

// update is a second reading of updates, and of deletes: those make nothing of a row.
func (b book) update(x api.Stmt) (int, api.Errno) {
	p := b[x.Table]
	var old []row
	for _, r := range p.sorted() {
		is, err := true, api.OK
		for _, e := range x.Where {
			is, err = eval.True(e, r)
		}
		if err != api.OK {
			return 0, err
		}
		if is {
			old = append(old, r)
		}
	}
	left := maps.Clone(p.rows)
	var l []row
	for _, r := range old {
		next := slices.Clone(r)
		for _, s := range x.Sets {
			v, err := eval.Eval(s.Expr, r)
			if err != api.OK {
				return 0, err
			}
			next[p.place(s.Name)] = v
		}
		delete(left, r[p.key])
		if x.Kind == 5 {
			l = append(l, next)
		}
	}
	return len(old), b.lay(x.Table, p, left, l)
}

// A roller makes statements, most of which fit the tables that there are.
type roller func(n int) int

// one answers one of several.
func one[T any](next roller, l ...T) T { return l[next(len(l))] }

// tables, columns and indexes have a few names, so that they meet.
func (next roller) name(of string) string { return fmt.Sprint(of, next(5)) }

// table is one that is there, as a rule.
func (next roller) table(b book) string {
	if len(b) == 0 || next(40) == 0 {
		return one(next, "t0", "t3", "t7", "nowhere")
	}
	return one(next, b.names()...)
}

func (next roller) create() string {
	name := fmt.Sprint("t", next(10))
	var parts []string
	n := 1 + next(4)
	for i := range n {
		column := fmt.Sprint("c", i)
		if next(30) == 0 {
			column = next.name("c")
		}
		parts = append(parts, column+one(next, " int", " int", " bool", " text")+one(next, "", "", "", " not null"))
	}
	key := fmt.Sprint("c", next(n))
	if next(30) == 0 {
		key = next.name("c")
	}
	return "create table " + name + " (" + strings.Join(parts, ", ") + ", primary key (" + key + "))"
}

func (next roller) index(b book) string {
	name, column := next.table(b), next.name("c")
	if p, is := b[name]; is && next(4) > 0 {
		column = one(next, p.columns...).Name
	}
	return "create index " + fmt.Sprint("i", next(60)) + " on " + name + " (" + column + ")"
}

// An atom is a value that is written down, or a column of that kind.
func (next roller) atom(kind int, columns []api.Column, keys int) string {
	var l []string
	for _, c := range columns {
		if c.Kind == kind {
			l = append(l, c.Name)
		}
	}
	if len(l) > 0 && next(3) > 0 {
		return one(next, l...)
	}
	if next(12) == 0 {
		return "null"
	}
	switch kind {
	case 1:
		return one(next, fmt.Sprint(next(keys)), fmt.Sprint(next(keys)), fmt.Sprint(-next(keys)), one(next, "9223372036854775807", "0", "1"))
	case 2:
		return one(next, "true", "false")
	}
	return fmt.Sprint("'", next(keys), "'")
}

// expr is an expression of a kind over columns.
func (next roller) expr(kind, levels int, columns []api.Column, keys int) string {
	if next(80) == 0 {
		kind = 1 + next(3)
	}
	if levels == 0 || kind == 3 || next(3) == 0 {
		return next.atom(kind, columns, keys)
	}
	more := func(kind int) string { return next.expr(kind, levels-1, columns, keys) }
	if kind == 1 {
		return one(next, "("+more(1)+one(next, " + ", " + ", " - ", " - ", " * ", " / ", " / ")+more(1)+")", "(- "+more(1)+")")
	}
	of := 1 + next(3)
	sign := one(next, " = ", " = ", " <> ", " < ", " <= ", " > ", " >= ")
	return one(next, "("+more(of)+sign+more(of)+")", "("+more(of)+sign+more(of)+")", "("+more(2)+one(next, " and ", " or ")+more(2)+")", "(not "+more(2)+")", "("+more(of)+one(next, " is null", " is not null")+")")
}

func (next roller) insert(b book) string {
	name := next.table(b)
	columns := b[name].columns
	if columns == nil {
		columns = make([]api.Column, 1)
	}
	var l []string
	for range 1 + next(4)*next(5) {
		var row []string
		for _, c := range columns {
			row = append(row, next.expr(c.Kind, next(3), nil, 300))
		}
		if next(200) == 0 {
			row = append(row, "1")
		}
		l = append(l, "("+strings.Join(row, ", ")+")")
	}
	return "insert into " + name + " values " + strings.Join(l, ", ")
}

func (next roller) where(columns []api.Column, levels int) string {
	if next(6) == 0 {
		return ""
	}
	return " where " + next.expr(2, levels, columns, 300)
}

func (next roller) update(b book) string {
	name := next.table(b)
	columns := slices.Clone(b[name].columns)
	var l []string
	for range 1 + next(max(1, len(columns))) {
		if len(columns) == 0 {
			l = append(l, "c0 = 1")
			break
		}
		c := one(next, columns...)
		if next(40) > 0 {
			columns = slices.DeleteFunc(slices.Clone(columns), func(d api.Column) bool { return c == d })
		}
		l = append(l, c.Name+" = "+next.expr(c.Kind, next(3), []api.Column{{Name: c.Name, Kind: c.Kind}, one(next, append(columns, c)...)}, 300))
	}
	return "update " + name + " set " + strings.Join(l, ", ") + next.where(b[name].columns, next(3))
}

func (next roller) delete(b book) string {
	name := next.table(b)
	return "delete from " + name + next.where(b[name].columns, 2+next(3))
}

func (next roller) drop(b book) string {
	return "drop table " + one(next, next.table(b), next.table(b), next.table(b), "nowhere")
}

func (next roller) query(b book) string {
	name := next.table(b)
	columns, from := b[name].columns, name
	if more := next.table(b); next(4) == 0 {
		columns = slices.Clone(columns)
		for i := range columns {
			columns[i].Name = name + "." + columns[i].Name
		}
		for _, c := range b[more].columns {
			columns = append(columns, api.Column{Name: more + "." + c.Name, Kind: c.Kind})
		}
		from += " join " + more + " on " + next.expr(2, 1+next(2), columns, 300)
	}
	var l []string
	for range 1 + next(3) {
		item := next.expr(1+next(3), next(3), columns, 300)
		if next(5) == 0 {
			item = one(next, "count(*)", "count("+item+")", "min("+item+")", "max("+item+")")
		}
		l = append(l, item)
	}
	return "select " + strings.Join(l, ", ") + " from " + from + next.where(columns, next(3)) + one(next, "", "", " order by 1", " order by 1 desc", fmt.Sprint(" limit ", next(20)))
}

// statement is of any Kind, most of them changing rows.
func (next roller) statement(b book) string {
	switch n := next(40); {
	case n < 2 || len(b) == 0 && next(9) > 0:
		return next.create()
	case n == 2 && next(3) == 0:
		return next.drop(b)
	case n < 4:
		return next.index(b)
	case n < 16:
		return next.insert(b)
	case n < 24:
		return next.update(b)
	case n < 28:
		return next.delete(b)
	case n < 39:
		return next.query(b)
	}
	return one(next, "begin", "commit", "rollback")
}

// All that is told of many statements, one after another, is what the second reading tells, and what follows may be.
func TestP111P113RolledStatements(t *testing.T) {
	seen, done := map[string]int{}, map[int]int{}
	for seed := range 80 {
		next := roller(rolled(uint64(1100 + seed)))
		var s model.State
		if seed%4 == 0 {
			s = state("create table one (a int, b int, primary key (a))")
			for i := range 250 + seed%7 {
				s.Rows[0] = append(s.Rows[0], row{num(i - 1000), num(i % 5)})
			}
		}
		b, first := bookOf(s), s
		var texts []string
		var all []api.Result
		for len(texts) < 250 {
			text := next.statement(b)
			x, _, err := parse.Parse(text)
			if err == api.ErrCount || err == api.ErrLong {
				continue
			}
			if err != api.OK {
				t.Fatalf("seed %d: %s is no statement: %d", seed, text, err)
			}
			was := s
			var told api.Result
			if len(texts)%2 == 0 {
				s, told = model.Run(s, x)
			} else {
				s, told = model.Text(s, printed(x))
			}
			want := b.run(x)
			if !sameResult(told, want) || !same(s, b.state()) {
				t.Fatalf("seed %d: %s tells %s, not %s, and leaves %s, not %s", seed, text, brief(told), brief(want), brief(s), brief(b.state()))
			}
			if model.Check(s) != api.OK {
				t.Fatalf("seed %d: what follows %s may not be", seed, text)
			}
			if (told.Err != api.OK || x.Kind >= 7) && !same(s, was) {
				t.Fatalf("seed %d: %s changes something", seed, text)
			}
			seen[fmt.Sprint(x.Kind, told.Err)]++
			done[x.Kind] += told.N
			texts, all = append(texts, text), append(all, told)
		}
		if last, results, err := model.Texts(first, texts); !same(last, s) || !sameResults(results, all) || err != api.OK {
			t.Fatalf("seed %d: all of them tell otherwise: %s, %d", seed, brief(last), err)
		}
	}
	for kind, errs := range map[int][]api.Errno{
		1: {api.ErrTwice, api.ErrColumn, api.ErrFull}, 2: {api.ErrTable, api.ErrColumn, api.ErrTwice, api.ErrFull}, 3: {api.ErrTable},
		4: {api.ErrTable, api.ErrCount, api.ErrType, api.ErrZero, api.ErrOver, api.ErrNull, api.ErrKey, api.ErrFull},
		5: {api.ErrTable, api.ErrTwice, api.ErrType, api.ErrZero, api.ErrOver, api.ErrNull, api.ErrKey},
		6: {api.ErrTable, api.ErrType, api.ErrZero, api.ErrOver},
		7: {api.ErrTable, api.ErrTwice, api.ErrType, api.ErrArg, api.ErrZero, api.ErrOver},
		8: nil, 9: nil, 10: nil,
	} {
		for _, err := range append(errs, api.OK) {
			if seen[fmt.Sprint(kind, err)] < 3 {
				t.Errorf("only %d of Kind %d told %d", seen[fmt.Sprint(kind, err)], kind, err)
			}
		}
	}
	for kind := 4; kind <= 7; kind++ {
		if done[kind] < 1000 {
			t.Errorf("statements of Kind %d were about %d rows only", kind, done[kind])
		}
	}
}
