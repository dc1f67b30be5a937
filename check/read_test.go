package check_test

import (
	"slices"
	"testing"

	"switchback/api"
	"switchback/catalog"
	"switchback/check"
	"switchback/syntax"
)

// A reading asks all that the chapter does, one after another; the first that is refused is told.
type reading struct {
	told  api.Errno
	scope []catalog.Table
}

func (r *reading) ask(is bool, otherwise api.Errno) {
	if r.told == api.OK && !is {
		r.told = otherwise
	}
}

func (r *reading) enter(s catalog.State, name string) int {
	n := slices.IndexFunc(s.Tables, func(t catalog.Table) bool { return t.Name == name })
	r.ask(n >= 0, api.ErrTable)
	r.scope = append(r.scope, s.Tables[max(n, 0)])
	return n
}

func (r *reading) expr(e api.Expr, aggregates bool) (api.Expr, int) {
	done, kind, err := check.Expr(r.scope, e, aggregates)
	r.ask(err == api.OK, err)
	return done, kind
}

// constant asks an insert's expression part by part, each by itself: nothing that a column stands in is asked ahead of it.
func (r *reading) constant(e api.Expr) (api.Expr, int) {
	for _, p := range parts(e, 0, nil) {
		r.ask(p.e.Op != 1, api.ErrColumn)
		r.expr(p.e, false)
	}
	return r.expr(e, false)
}

func (r *reading) condition(l []api.Expr) []api.Expr {
	var done []api.Expr
	for _, e := range l {
		d, kind := r.expr(e, false)
		r.ask(kind == 2 || kind == 0, api.ErrType)
		done = append(done, d)
	}
	return done
}

// outside are the columns and the aggregates of an expression that stand in no aggregate.
func outside(e api.Expr) (columns []api.Expr, aggregates int) {
	for _, p := range parts(e, 0, nil) {
		if p.withinIt == 0 && p.e.Op == 1 {
			columns = append(columns, p.e)
		}
		if p.e.Op >= countAll {
			aggregates++
		}
	}
	return columns, aggregates
}

// byChapter is a second reading of P7.2, over tables that may be.
func byChapter(s catalog.State, x api.Stmt) (check.Typed, api.Errno) {
	var r reading
	want := check.Typed{Stmt: x, Table: -1, Join: -1, Group: -1}
	if err := syntax.Check(x); err != api.OK {
		return check.Typed{}, err
	}
	if x.Kind < 4 || x.Kind > 7 {
		return want, api.OK
	}
	want.Table = r.enter(s, x.Table)
	switch x.Kind {
	case 4:
		want.Stmt.Rows = r.rows(x.Rows)
	case 5:
		want.Stmt.Sets = r.sets(x.Sets)
	case 7:
		if x.Join != "" {
			want.Join = r.enter(s, x.Join)
			r.ask(want.Join != want.Table, api.ErrTwice)
		}
		want.Stmt.On = r.condition(x.On)
	}
	want.Stmt.Where = r.condition(x.Where)
	if x.Kind == 7 {
		r.query(&want)
	}
	if r.told != api.OK {
		return check.Typed{}, r.told
	}
	return want, api.OK
}

func (r *reading) rows(rows [][]api.Expr) [][]api.Expr {
	var done [][]api.Expr
	for _, row := range rows {
		columns := r.scope[0].Columns
		r.ask(len(row) == len(columns), api.ErrCount)
		var l []api.Expr
		for i, e := range row {
			d, kind := r.constant(e)
			if i < len(columns) {
				r.ask(kind == 0 || kind == columns[i].Kind, api.ErrType)
			}
			l = append(l, d)
		}
		done = append(done, l)
	}
	return done
}

func (r *reading) sets(sets []api.Set) []api.Set {
	var done []api.Set
	for i, s := range sets {
		n := slices.IndexFunc(r.scope[0].Columns, func(c api.Column) bool { return c.Name == s.Name })
		r.ask(n >= 0, api.ErrColumn)
		for _, ahead := range sets[:i] {
			r.ask(ahead.Name != s.Name, api.ErrTwice)
		}
		d, kind := r.expr(s.Expr, false)
		r.ask(kind == 0 || kind == r.scope[0].Columns[max(n, 0)].Kind, api.ErrType)
		done = append(done, api.Set{Name: s.Name, Expr: d})
	}
	return done
}

func (r *reading) query(want *check.Typed) {
	x := want.Stmt
	want.Stmt.Items, want.Stmt.Group = nil, nil
	for _, e := range x.Group {
		d, _ := r.expr(e, false)
		want.Group = d.Value.N
		want.Stmt.Group = append(want.Stmt.Group, d)
	}
	aggregates := 0
	var columns []api.Expr
	for _, e := range x.Items {
		d, kind := r.expr(e, true)
		want.Stmt.Items, want.Kinds = append(want.Stmt.Items, d), append(want.Kinds, kind)
		l, n := outside(e)
		columns, aggregates = append(columns, l...), aggregates+n
	}
	if len(x.Group) > 0 || aggregates > 0 {
		for _, e := range columns {
			d, _ := r.expr(e, false)
			r.ask(len(x.Group) > 0 && d.Value.N == want.Group, api.ErrArg)
		}
	}
	for _, o := range x.Order {
		r.ask(o.N <= len(x.Items), api.ErrRange)
	}
}

// changed is e, each part of it changed.
func changed(e api.Expr, change func(e api.Expr) api.Expr) api.Expr {
	e.Args = slices.Clone(e.Args)
	for i, arg := range e.Args {
		e.Args[i] = changed(arg, change)
	}
	return change(e)
}

// ofT is an expression with t's columns for those of u, now and then but for one.
func ofT(next func(n int) int, e api.Expr) api.Expr {
	return changed(e, func(e api.Expr) api.Expr {
		to := map[string]api.Expr{".d": col("c"), ".e": col("b"), ".f": col("n"), "u.e": colOf("t", "b"), "u.a": col("c")}
		if u, is := to[e.Table+"."+e.Name]; is && e.Op == 1 && next(80) > 0 {
			return u
		}
		return e
	})
}

// ofNone is an expression with literals for columns, now and then but for one.
func ofNone(next func(n int) int, e api.Expr) api.Expr {
	kinds := map[string]int{".n": 1, "t.a": 1, ".f": 1, ".b": 2, ".e": 2, "t.b": 2, "u.e": 2, ".c": 3, ".d": 3, "u.a": 3}
	return changed(e, func(e api.Expr) api.Expr {
		kind, is := kinds[e.Table+"."+e.Name]
		if e.Op == 1 && is && next(80) > 0 {
			return [...]api.Expr{{}, num(5), expr("false"), expr("'none'")}[kind]
		}
		return e
	})
}

func rolledStmt(next func(n int) int) api.Stmt {
	name := func(s string) string {
		if next(40) == 0 {
			return "nowhere"
		}
		return s
	}
	levels := 1 + next(4)
	kinds := []int{1, 2, 3, 1}
	ofRow := func(kind int) api.Expr { return ofT(next, rolledExpr(next, kind, levels, false)) }
	x := api.Stmt{Kind: 4 + next(4), Table: name("t")}
	where := func() {
		if next(2) == 0 {
			x.Where = append(x.Where, ofRow(2))
		}
	}
	switch x.Kind {
	case 4:
		for range 1 + next(3) {
			var row []api.Expr
			for i := range 4 + (next(30)+1)/30 {
				row = append(row, ofNone(next, rolledExpr(next, kinds[i%4], levels, false)))
			}
			x.Rows = append(x.Rows, row)
		}
	case 5:
		names := []string{"a", "b", "c", "n"}
		at := next(4)
		for i := range 1 + next(4) {
			n := (at + i) % 4
			if next(20) == 0 {
				n = next(4)
			}
			x.Sets = append(x.Sets, api.Set{Name: name(names[n]), Expr: ofRow(kinds[n])})
		}
		where()
	case 6:
		where()
	case 7:
		return rolledSelect(next, name, ofRow)
	}
	return x
}

func rolledSelect(next func(n int) int, name func(s string) string, ofRow func(kind int) api.Expr) api.Stmt {
	x := api.Stmt{Kind: 7, Table: name("t"), Limit: next(5) - 1}
	if next(2) == 0 {
		x.Join = name([]string{"u", "u", "u", "u", "t", "wide"}[next(6)])
		x.On = []api.Expr{rolledExpr(next, 2, 1+next(4), false)}
		ofRow = func(kind int) api.Expr { return rolledExpr(next, kind, 1+next(4), false) }
	}
	if next(2) == 0 {
		x.Where = []api.Expr{ofRow(2)}
	}
	gathered := next(2) == 0
	if gathered && next(3) > 0 {
		x.Group = []api.Expr{{Op: 1, Table: []string{"", "t", "t"}[next(3)], Name: name([]string{"b", "c", "n", "a"}[next(4)])}}
	}
	for range 1 + next(4) {
		kind := 1 + next(3)
		item := ofRow(kind)
		switch {
		case gathered && len(x.Group) > 0 && next(3) == 0:
			item = op(isNull, x.Group[0])
		case gathered && next(12) > 0:
			item = op(equal, op(countAll), op(count, item))
		case next(30) == 0:
			item = op(maxOf, item)
		}
		x.Items = append(x.Items, item)
	}
	for range next(3) {
		x.Order = append(x.Order, api.Order{N: 1 + next(len(x.Items)+(next(8)+1)/8), Desc: next(2) == 0})
	}
	return x
}

func TestP72ByChapter(t *testing.T) {
	next := rolled(11)
	seen := map[[2]int]int{}
	s := some()
	for range 40000 {
		x := rolledStmt(next)
		want, wrong := byChapter(s, x)
		seen[[2]int{x.Kind, int(wrong)}]++
		if got, err := check.Stmt(s, x); !sameTyped(got, want) || err != wrong {
			t.Fatalf("Stmt(%+v) = %+v, %d, not %+v, %d", x, got, err, want, wrong)
		}
	}
	for kind, errs := range map[int][]api.Errno{
		4: {api.OK, api.ErrTable, api.ErrCount, api.ErrColumn, api.ErrType, api.ErrArg},
		5: {api.OK, api.ErrTable, api.ErrColumn, api.ErrTwice, api.ErrType, api.ErrArg},
		6: {api.OK, api.ErrTable, api.ErrColumn, api.ErrType, api.ErrArg},
		7: {api.OK, api.ErrTable, api.ErrTwice, api.ErrColumn, api.ErrType, api.ErrArg, api.ErrRange},
	} {
		for _, err := range errs {
			if n := seen[[2]int{kind, int(err)}]; n < 30 {
				t.Errorf("only %d statements of kind %d told %d", n, kind, err)
			}
		}
	}
}

// exprsOf are a statement's expressions, in the order of api.Stmt's fields.
func exprsOf(x api.Stmt) []api.Expr {
	l := slices.Concat(x.Rows...)
	for _, s := range x.Sets {
		l = append(l, s.Expr)
	}
	return slices.Concat(l, x.Items, x.On, x.Where, x.Group)
}

// holds tells of a resolved expression whether it is what e is, over a row of columns with those names: no names, and each place that of a column that may be called so.
func holds(e, done api.Expr, row [][2]string) bool {
	if done.Table != "" || done.Name != "" || e.Op != done.Op || len(e.Args) != len(done.Args) {
		return false
	}
	n := done.Value.N
	switch {
	case e.Op == 1 && (n < 0 || n >= len(row) || done.Value != api.Value{Kind: 1, N: n} || row[n][1] != e.Name || e.Table != "" && row[n][0] != e.Table):
		return false
	case e.Op != 1 && done.Value != e.Value:
		return false
	}
	for i := range e.Args {
		if !holds(e.Args[i], done.Args[i], row) {
			return false
		}
	}
	return true
}

func TestP73NoNamesAndPlacesWithinTheRow(t *testing.T) {
	next := rolled(12)
	s := some()
	n := 0
	for range 20000 {
		x := rolledStmt(next)
		y, err := check.Stmt(s, x)
		if err != api.OK {
			continue
		}
		n++
		var row [][2]string
		for _, at := range []int{y.Table, y.Join} {
			if at >= 0 {
				for _, c := range s.Tables[at].Columns {
					row = append(row, [2]string{s.Tables[at].Name, c.Name})
				}
			}
		}
		given, done := exprsOf(x), exprsOf(y.Stmt)
		if len(given) != len(done) || len(y.Kinds) != len(x.Items) || y.Group >= len(row) {
			t.Fatalf("Stmt(%+v) = %+v", x, y)
		}
		for i := range given {
			if !holds(given[i], done[i], row) {
				t.Fatalf("Stmt(%+v) = %+v: %v is no %v", x, y, done[i], given[i])
			}
		}
		for i, set := range x.Sets {
			if y.Stmt.Sets[i].Name != set.Name {
				t.Fatalf("Stmt(%+v) = %+v", x, y)
			}
		}
	}
	if n < 5000 {
		t.Errorf("only %d statements were held", n)
	}
}
