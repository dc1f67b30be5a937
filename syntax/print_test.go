package syntax_test

import (
	"fmt"
	"reflect"
	"strings"
	"testing"
	"unsafe"

	"switchback/api"
	"switchback/syntax"
)

func TestP42OneByOne(t *testing.T) {
	a, b, one := col("a"), col("b"), num(1)
	for _, x := range []struct {
		e     api.Expr
		print string
	}{
		{null(), "NULL"},
		{num(0), "0"},
		{num(258), "258"},
		{num(greatest), "9223372036854775807"},
		{yes(), "TRUE"},
		{no(), "FALSE"},
		{text(""), "''"},
		{text("x"), "'x'"},
		{text("'"), "''''"},
		{text("''"), "''''''"},
		{text("it's"), "'it''s'"},
		{text("'a'"), "'''a'''"},
		{text("A b\n\t--\x00\xff\\\""), "'A b\n\t--\x00\xff\\\"'"},
		{text("NULL"), "'NULL'"},
		{text(strings.Repeat("'", 64)), strings.Repeat("'", 130)},
		{a, "a"},
		{colOf("t", "a"), "t.a"},
		{colOf("a", "a"), "a.a"},
		{col("_1"), "_1"},
		{op(neg, one), "(-1)"},
		{op(neg, a), "(-a)"},
		{op(neg, op(neg, one)), "(-(-1))"},
		{op(not, a), "(NOT a)"},
		{op(not, op(not, yes())), "(NOT (NOT TRUE))"},
		{op(add, a, one), "(a + 1)"},
		{op(sub, a, one), "(a - 1)"},
		{op(mul, a, one), "(a * 1)"},
		{op(div, a, one), "(a / 1)"},
		{op(equal, a, one), "(a = 1)"},
		{op(unlike, a, one), "(a <> 1)"},
		{op(below, a, one), "(a < 1)"},
		{op(atMost, a, one), "(a <= 1)"},
		{op(above, a, one), "(a > 1)"},
		{op(atLeast, a, one), "(a >= 1)"},
		{op(and, a, b), "(a AND b)"},
		{op(or, a, b), "(a OR b)"},
		{op(isNull, a), "(a IS NULL)"},
		{op(isNotNull, a), "(a IS NOT NULL)"},
		{op(isNull, null()), "(NULL IS NULL)"},
		{op(countAll), "COUNT(*)"},
		{op(count, a), "COUNT(a)"},
		{op(sum, a), "SUM(a)"},
		{op(minOf, a), "MIN(a)"},
		{op(maxOf, a), "MAX(a)"},
		{op(count, op(countAll)), "COUNT(COUNT(*))"},
		{op(sum, op(add, a, one)), "SUM((a + 1))"},
		{op(maxOf, op(neg, colOf("t", "a"))), "MAX((-t.a))"},
		{op(add, a, op(mul, b, col("c"))), "(a + (b * c))"},
		{op(mul, op(add, a, b), col("c")), "((a + b) * c)"},
		{op(sub, op(sub, a, b), op(sub, b, a)), "((a - b) - (b - a))"},
		{op(sub, a, op(neg, one)), "(a - (-1))"},
		{op(not, op(isNotNull, op(equal, a, text("'")))), "(NOT ((a = '''') IS NOT NULL))"},
		{op(or, op(and, a, b), op(not, a)), "((a AND b) OR (NOT a))"},
		{op(above, op(countAll), op(sum, a)), "(COUNT(*) > SUM(a))"},
		{deep(12), strings.Repeat("(-", 11) + "a" + strings.Repeat(")", 11)},
	} {
		if s, e := syntax.PrintExpr(x.e); s != x.print || e != api.OK {
			t.Errorf("PrintExpr = %q, %d, not %q", s, e, x.print)
		}
	}
}

func TestP43OneByOne(t *testing.T) {
	for _, b := range bases() {
		if s, e := syntax.Print(b.x); s != b.print || e != api.OK {
			t.Errorf("Print = %q, %d, not %q", s, e, b.print)
		}
		if s, e := syntax.Print(with(b.x, emptied)); s != b.print || e != api.OK {
			t.Errorf("Print with empty lists = %q, %d, not %q", s, e, b.print)
		}
	}
}

func TestP43TheLongest(t *testing.T) {
	name, other := strings.Repeat("n", 16), strings.Repeat("o", 16)
	item := op(add, colOf(name, other), text(strings.Repeat("'", 64)))
	print := "(" + name + "." + other + " + " + strings.Repeat("'", 130) + ")"
	times := func(s string, n int) string { return strings.Repeat(s+", ", n-1) + s }
	for _, x := range []printed{
		{api.Stmt{Kind: 1, Table: name, Columns: repeat(api.Column{Name: other, Kind: 2, NotNull: true}, 8), Key: other},
			"CREATE TABLE " + name + " (" + times(other+" BOOL NOT NULL", 8) + ", PRIMARY KEY (" + other + "))"},
		{api.Stmt{Kind: 2, Table: name, Index: other, Key: name}, "CREATE INDEX " + other + " ON " + name + " (" + name + ")"},
		{api.Stmt{Kind: 4, Table: name, Rows: repeat(repeat(item, 8), 16)},
			"INSERT INTO " + name + " VALUES " + times("("+times(print, 8)+")", 16)},
		{api.Stmt{Kind: 5, Table: name, Sets: repeat(api.Set{Name: other, Expr: item}, 8), Where: list(item)},
			"UPDATE " + name + " SET " + times(other+" = "+print, 8) + " WHERE " + print},
		{api.Stmt{Kind: 7, Table: name, Items: repeat(item, 16), Join: other, On: list(item), Where: list(item), Group: list(colOf(name, other)), Order: repeat(api.Order{N: 16, Desc: true}, 8), Limit: 1 << 31},
			"SELECT " + times(print, 16) + " FROM " + name + " JOIN " + other + " ON " + print + " WHERE " + print + " GROUP BY " + name + "." + other + " ORDER BY " + times("16 DESC", 8) + " LIMIT 2147483648"},
	} {
		if s, e := syntax.Print(x.x); s != x.print || e != api.OK {
			t.Errorf("Print = %q, %d, not %q", s, e, x.print)
		}
	}
}

// byFormat is a second reading of P4.2.
func byFormat(e api.Expr) string {
	var args []any
	for _, arg := range e.Args {
		args = append(args, byFormat(arg))
	}
	formats := strings.Split("(-%s),(NOT %s),(%s + %s),(%s - %s),(%s * %s),(%s / %s),(%s = %s),(%s <> %s),(%s < %s),(%s <= %s),(%s > %s),(%s >= %s),(%s AND %s),(%s OR %s),(%s IS NULL),(%s IS NOT NULL),COUNT(*),COUNT(%s),SUM(%s),MIN(%s),MAX(%s)", ",")
	switch {
	case e.Op >= 2:
		return fmt.Sprintf(formats[e.Op-2], args...)
	case e.Op == 1 && e.Table != "":
		return e.Table + "." + e.Name
	case e.Op == 1:
		return e.Name
	}
	v := e.Value
	return []string{"NULL", fmt.Sprint(v.N), strings.ToUpper(fmt.Sprint(v.N == 1)), "'" + strings.Join(strings.Split(v.Text, "'"), "''") + "'"}[v.Kind]
}

// whole is a second reading of P4.3.
func whole(x api.Stmt) string {
	exprs := func(words string, l []api.Expr) string {
		if len(l) == 0 {
			return ""
		}
		var texts []string
		for _, e := range l {
			texts = append(texts, byFormat(e))
		}
		return words + strings.Join(texts, ", ")
	}
	var l []string
	switch x.Kind {
	case 1:
		for _, c := range x.Columns {
			l = append(l, c.Name+[]string{"", " INT", " BOOL", " TEXT"}[c.Kind]+map[bool]string{true: " NOT NULL"}[c.NotNull])
		}
		return fmt.Sprintf("CREATE TABLE %s (%s, PRIMARY KEY (%s))", x.Table, strings.Join(l, ", "), x.Key)
	case 2:
		return fmt.Sprintf("CREATE INDEX %s ON %s (%s)", x.Index, x.Table, x.Key)
	case 3:
		return "DROP TABLE " + x.Table
	case 4:
		for _, row := range x.Rows {
			l = append(l, exprs("(", row)+")")
		}
		return "INSERT INTO " + x.Table + " VALUES " + strings.Join(l, ", ")
	case 5:
		for _, s := range x.Sets {
			l = append(l, s.Name+" = "+byFormat(s.Expr))
		}
		return "UPDATE " + x.Table + " SET " + strings.Join(l, ", ") + exprs(" WHERE ", x.Where)
	case 6:
		return "DELETE FROM " + x.Table + exprs(" WHERE ", x.Where)
	case 7:
		s := exprs("SELECT ", x.Items) + " FROM " + x.Table
		if x.Join != "" {
			s += " JOIN " + x.Join
		}
		s += exprs(" ON ", x.On) + exprs(" WHERE ", x.Where) + exprs(" GROUP BY ", x.Group)
		for i, o := range x.Order {
			s += []string{" ORDER BY ", ", "}[min(i, 1)] + fmt.Sprint(o.N) + map[bool]string{true: " DESC"}[o.Desc]
		}
		if x.Limit >= 0 {
			s += fmt.Sprint(" LIMIT ", x.Limit)
		}
		return s
	}
	return []string{"BEGIN", "COMMIT", "ROLLBACK"}[x.Kind-8]
}

// rolledStmt is a statement that may be, but perhaps for its expressions.
func rolledStmt(next func(n int) int) api.Stmt {
	name := func() string { return []string{"a", "b", "t", "u"}[next(4)] }
	exprs := func(n int) []api.Expr {
		var l []api.Expr
		for range n {
			l = append(l, rolledExpr(next, 1+next(4)))
		}
		return l
	}
	x := api.Stmt{Kind: 1 + next(10)}
	if x.Kind <= 7 {
		x.Table = name()
	}
	switch x.Kind {
	case 1:
		for range 1 + next(3) {
			x.Columns = append(x.Columns, api.Column{Name: name(), Kind: 1 + next(3), NotNull: next(2) == 0})
		}
		x.Key = name()
	case 2:
		x.Index, x.Key = name(), name()
	case 4:
		for range 1 + next(3) {
			x.Rows = append(x.Rows, exprs(1+next(3)))
		}
	case 5:
		for range 1 + next(3) {
			x.Sets = append(x.Sets, api.Set{Name: name(), Expr: rolledExpr(next, 3)})
		}
		x.Where = exprs(next(2))
	case 6:
		x.Where = exprs(next(2))
	case 7:
		x.Items = exprs(1 + next(3))
		if next(2) == 0 {
			x.Join, x.On = name(), exprs(1)
		}
		x.Where = exprs(next(2))
		x.Group = repeat(colOf([]string{"", name()}[next(2)], name()), next(2))
		for range next(3) {
			x.Order = append(x.Order, api.Order{N: 1 + next(16), Desc: next(2) == 0})
		}
		x.Limit = next(4) - 1
	}
	return x
}

func TestP43ByFormat(t *testing.T) {
	next := rolled(4)
	for range 30000 {
		x := rolledStmt(next)
		if byFields(x) != api.OK {
			t.Fatalf("%#v may not be", x)
		}
		first, e := syntax.Print(x)
		second, f := syntax.Print(x)
		if first != whole(x) || e != api.OK || second != first || f != api.OK {
			t.Fatalf("Print(%#v) = %q, %d, then %q, %d, not %q", x, first, e, second, f, whole(x))
		}
		for _, p := range places(&x) {
			if s, e := syntax.PrintExpr(*p); s != byFormat(*p) || e != api.OK {
				t.Fatalf("PrintExpr(%#v) = %q, %d, not %q", *p, s, e, byFormat(*p))
			}
		}
	}
}

// bare is x with nil for each list that is empty.
func bare(x api.Stmt) api.Stmt {
	x = cloneStmt(x)
	for _, p := range places(&x) {
		bareArgs(p)
	}
	for _, l := range []*[]api.Expr{&x.Items, &x.On, &x.Where, &x.Group} {
		if len(*l) == 0 {
			*l = nil
		}
	}
	if len(x.Columns) == 0 {
		x.Columns = nil
	}
	if len(x.Rows) == 0 {
		x.Rows = nil
	}
	if len(x.Sets) == 0 {
		x.Sets = nil
	}
	if len(x.Order) == 0 {
		x.Order = nil
	}
	return x
}

func bareArgs(e *api.Expr) {
	if len(e.Args) == 0 {
		e.Args = nil
	}
	for i := range e.Args {
		bareArgs(&e.Args[i])
	}
}

func TestP41Same(t *testing.T) {
	hold := func(a, b api.Stmt) {
		t.Helper()
		want := byFields(a) == api.OK && byFields(b) == api.OK && reflect.DeepEqual(bare(a), bare(b))
		if is := syntax.Same(a, b); is != want {
			t.Fatalf("Same(%#v, %#v) = %v", a, b, is)
		}
		if is := syntax.Same(b, a); is != want {
			t.Fatalf("Same(%#v, %#v) = %v", b, a, is)
		}
	}
	for _, b := range bases() {
		for _, c := range bases() {
			hold(b.x, c.x)
			hold(b.x, with(c.x, emptied))
		}
		for _, first := range changes() {
			hold(b.x, with(b.x, first))
			hold(with(b.x, first), with(b.x, first)) // not where it may not be
			for _, second := range changes() {
				hold(with(b.x, first), with(b.x, second))
			}
		}
	}
	next := rolled(5)
	for range 20000 {
		hold(rolledStmt(next), rolledStmt(next))
		x := rolledStmt(next)
		y := cloneStmt(x)
		if l := places(&y); len(l) > 0 {
			spoil(next, l[next(len(l))])
		}
		hold(x, y)
	}
}

// Of each field, and each part's: statements that are unlike in it alone are not one.
func TestP41SameOfEachField(t *testing.T) {
	x := fullest().x
	for name, change := range map[string]func(x *api.Stmt){
		"Table":       func(x *api.Stmt) { x.Table = "z" },
		"Join":        func(x *api.Stmt) { x.Join = "z" },
		"Limit":       func(x *api.Stmt) { x.Limit = 4 },
		"no Limit":    func(x *api.Stmt) { x.Limit = -1 },
		"Item's Op":   func(x *api.Stmt) { x.Items[0].Op = minOf },
		"Item's Arg":  func(x *api.Stmt) { x.Items[0].Args[0].Args[1].Name = "c" },
		"an Item":     func(x *api.Stmt) { x.Items = append(x.Items, null()) },
		"On's Table":  func(x *api.Stmt) { x.On[0].Args[0].Table = "" },
		"On's Args":   func(x *api.Stmt) { x.On[0].Args[0], x.On[0].Args[1] = x.On[0].Args[1], x.On[0].Args[0] },
		"Where's N":   func(x *api.Stmt) { x.Where[0].Args[1].Value.N = 2 },
		"Where's Op":  func(x *api.Stmt) { x.Where[0].Op = below },
		"no Where":    func(x *api.Stmt) { x.Where = nil },
		"Group":       func(x *api.Stmt) { x.Group[0].Name = "b" },
		"no Group":    func(x *api.Stmt) { x.Group = nil },
		"Order's N":   func(x *api.Stmt) { x.Order[1].N = 3 },
		"Desc":        func(x *api.Stmt) { x.Order[1].Desc = true },
		"an Order":    func(x *api.Stmt) { x.Order = x.Order[:1] },
		"Orders":      func(x *api.Stmt) { x.Order[0], x.Order[1] = x.Order[1], x.Order[0] },
		"no Join, On": func(x *api.Stmt) { x.Join, x.On = "", nil },
	} {
		y := with(x, change)
		if syntax.Check(y) != api.OK || syntax.Same(x, y) || syntax.Same(y, x) || !syntax.Same(y, y) || !syntax.Same(y, cloneStmt(y)) {
			t.Errorf("unlike in %s: Check %d, Same %v, %v, %v, %v", name, syntax.Check(y), syntax.Same(x, y), syntax.Same(y, x), syntax.Same(y, y), syntax.Same(y, cloneStmt(y)))
		}
	}
}

// smallExprs are all expressions of few parts over few names and literals.
func smallExprs(deep int) []api.Expr {
	l := list(null(), num(0), num(1), num(10), yes(), no(), text(""), text("'"), text("a"), text("1"), text("NULL"), text("', '"), text("' + '"), col("a"), col("b"), colOf("a", "b"), op(countAll))
	if deep == 1 {
		return l
	}
	inner := smallExprs(deep - 1)
	if len(inner) > 40 {
		inner = append(inner[:10:10], inner[len(inner)-30:]...)
	}
	for n := 2; n <= 22; n++ {
		for _, a := range inner {
			switch argsOf(n) {
			case 1:
				l = append(l, op(n, a))
			case 2:
				for _, b := range inner {
					l = append(l, op(n, a, b))
				}
			}
		}
	}
	return l
}

func TestP44UnlikePrints(t *testing.T) {
	seen := map[string]api.Stmt{}
	hold := func(x api.Stmt) {
		s, e := syntax.Print(x)
		if e != api.OK {
			return
		}
		y, is := seen[s]
		if !is {
			seen[s] = x
			return
		}
		if !syntax.Same(x, y) || !reflect.DeepEqual(bare(x), bare(y)) {
			t.Fatalf("%q is the print of %#v and of %#v", s, x, y)
		}
	}
	for _, e := range smallExprs(3) {
		hold(api.Stmt{Kind: 6, Table: "t", Where: list(e)})
	}
	for _, b := range bases() {
		for _, first := range changes() {
			for _, second := range changes() {
				hold(with(with(b.x, first), second))
			}
		}
	}
	next := rolled(6)
	for range 50000 {
		x := rolledStmt(next)
		hold(cloneStmt(x))
		if l := places(&x); len(l) > 0 {
			spoil(next, l[next(len(l))])
		}
		hold(x)
	}
	for _, s := range []string{"a, b", "a', 'b", "'a', 'b'", "a' 'b", "''", "'", "'''", "a'", "'a", "a''", "''a"} {
		hold(api.Stmt{Kind: 4, Table: "t", Rows: rowsOf(list(text(s)))})
		hold(api.Stmt{Kind: 4, Table: "t", Rows: rowsOf(list(text(s), text(s)))})
		hold(api.Stmt{Kind: 4, Table: "t", Rows: rowsOf(list(text(s)), list(text(s)))})
	}
	if len(seen) < 40000 {
		t.Errorf("only %d prints", len(seen))
	}
}

// shares tells whether two texts have octets in one memory.
func shares(a, b string) bool {
	if a == "" || b == "" {
		return false
	}
	x, y := uintptr(unsafe.Pointer(unsafe.StringData(a))), uintptr(unsafe.Pointer(unsafe.StringData(b)))
	return x < y+uintptr(len(b)) && y < x+uintptr(len(a))
}

func TestP45PrintsAreNewMemory(t *testing.T) {
	for _, b := range bases() {
		first, _ := syntax.Print(b.x)
		second, _ := syntax.Print(b.x)
		if shares(first, second) || first != second {
			t.Errorf("the prints %q, %q are shared, or unlike", first, second)
		}
	}
	for _, e := range list(null(), num(12345), yes(), text("abc"), col("abc"), colOf("abc", "def"), op(countAll), op(sum, col("abc"))) {
		first, _ := syntax.PrintExpr(e)
		second, _ := syntax.PrintExpr(e)
		if shares(first, second) || first != second {
			t.Errorf("the prints %q, %q are shared, or unlike", first, second)
		}
		for _, s := range []string{e.Name, e.Table, e.Value.Text} {
			if shares(first, s) {
				t.Errorf("the print %q is shared with %q", first, s)
			}
		}
	}
}

func TestP45NothingIsKeptFromCallToCall(t *testing.T) {
	x := fullest()
	for range 3 {
		for _, other := range bases() {
			syntax.Print(other.x)
			syntax.Check(with(other.x, func(x *api.Stmt) { x.Limit = -2 }))
			syntax.PrintExpr(deep(13))
			syntax.PrintExpr(op(23))
			if s, e := syntax.Print(x.x); s != x.print || e != api.OK {
				t.Errorf("after %q Print = %q, %d", other.print, s, e)
			}
			if e := syntax.CheckExpr(wide(64)); e != api.OK {
				t.Errorf("after %q CheckExpr = %d", other.print, e)
			}
		}
	}
}
