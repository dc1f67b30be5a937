package syntax_test

import (
	"fmt"
	"reflect"
	"strings"
	"testing"

	"switchback/api"
	"switchback/syntax"
)

func checked(t *testing.T, name string, x api.Stmt, want api.Errno) {
	t.Helper()
	if got := syntax.Check(x); got != want {
		t.Errorf("%s: Check = %d, not %d", name, got, want)
	}
	if s, got := syntax.Print(x); got != want || (s == "") != (want != api.OK) {
		t.Errorf("%s: Print = %.80q, %d, not %d", name, s, got, want)
	}
	if syntax.Same(x, x) != (want == api.OK) {
		t.Errorf("%s: Same of it and itself = %v", name, want != api.OK)
	}
}

// with is x, changed.
func with(x api.Stmt, change func(x *api.Stmt)) api.Stmt {
	x = cloneStmt(x)
	change(&x)
	return x
}

func table() api.Stmt {
	return api.Stmt{Kind: 1, Table: "t", Columns: []api.Column{{Name: "a", Kind: 1}}, Key: "a"}
}

func query() api.Stmt {
	return api.Stmt{Kind: 7, Table: "t", Items: list(col("a")), Limit: -1}
}

func TestP41StatementsThatMayBe(t *testing.T) {
	for _, b := range bases() {
		checked(t, b.print, b.x, api.OK)
		// Empty lists are none.
		checked(t, b.print, with(b.x, emptied), api.OK)
	}
}

func emptied(x *api.Stmt) {
	for _, l := range []*[]api.Expr{&x.Items, &x.On, &x.Where, &x.Group} {
		if *l == nil {
			*l = []api.Expr{}
		}
	}
	if x.Columns == nil {
		x.Columns = []api.Column{}
	}
	if x.Rows == nil {
		x.Rows = [][]api.Expr{}
	}
	if x.Sets == nil {
		x.Sets = []api.Set{}
	}
	if x.Order == nil {
		x.Order = []api.Order{}
	}
}

func TestP41KindsThatAreNone(t *testing.T) {
	for _, kind := range []int{least, -1 << 32, -7, -1, 0, 11, 12, 22, 1 << 32, 1<<32 + 7, greatest} {
		checked(t, "nothing but a kind", api.Stmt{Kind: kind}, api.ErrKind)
		for _, b := range bases() {
			checked(t, b.print, with(b.x, func(x *api.Stmt) { x.Kind = kind }), api.ErrKind)
		}
		checked(t, "all else wrong, too", api.Stmt{Kind: kind, Table: "1", Limit: -2, Items: list(deep(13))}, api.ErrKind)
	}
	checked(t, "nothing", api.Stmt{}, api.ErrKind)
}

func TestP41ColumnsOfATable(t *testing.T) {
	width := func(n int) api.Stmt {
		return with(table(), func(x *api.Stmt) { x.Columns = repeat(x.Columns[0], n) })
	}
	for n := range 12 {
		want := api.ErrState
		if n >= 1 && n <= 8 {
			want = api.OK
		}
		checked(t, fmt.Sprint(n, " columns"), width(n), want)
	}
	checked(t, "columns without end", width(100000), api.ErrState)
	for _, kind := range []int{least, -1, 0, 1, 2, 3, 4, 1<<32 + 1, greatest} {
		want := api.ErrState
		if kind >= 1 && kind <= 3 {
			want = api.OK
		}
		checked(t, fmt.Sprint("kind ", kind), with(table(), func(x *api.Stmt) { x.Columns[0].Kind = kind }), want)
		checked(t, fmt.Sprint("the last one's kind ", kind), with(width(8), func(x *api.Stmt) { x.Columns[7].Kind = kind }), want)
	}
}

// names: a name that a statement has, by its field.
func names() map[string]func(x *api.Stmt) *string {
	return map[string]func(x *api.Stmt) *string{
		"Table": func(x *api.Stmt) *string { return &x.Table },
		"Key":   func(x *api.Stmt) *string { return &x.Key },
		"Index": func(x *api.Stmt) *string { return &x.Index },
		"Join":  func(x *api.Stmt) *string { return &x.Join },
		"the last column": func(x *api.Stmt) *string {
			if len(x.Columns) == 0 {
				return new(string)
			}
			return &x.Columns[len(x.Columns)-1].Name
		},
		"the last set": func(x *api.Stmt) *string {
			if len(x.Sets) == 0 {
				return new(string)
			}
			return &x.Sets[len(x.Sets)-1].Name
		},
	}
}

func TestP41NamesOfAStatement(t *testing.T) {
	for _, b := range bases() {
		for field, name := range names() {
			if *name(&b.x) == "" {
				continue
			}
			put := func(s string, want api.Errno) {
				t.Helper()
				checked(t, b.print+": "+field+" "+s, with(b.x, func(x *api.Stmt) { *name(x) = s }), want)
			}
			for _, s := range []string{"a", "_", "z9", strings.Repeat("a", 16)} {
				put(s, api.OK)
			}
			for _, s := range []string{"", "1", "9a", "A", "T", "a b", "t.a", "\x00", "\u00e9", "a;", strings.Repeat("a", 17)} {
				put(s, api.ErrState)
			}
			for _, s := range strings.Fields(keywords) {
				put(s, api.ErrState)
			}
		}
	}
}

// A Join that is gone leaves its On; so what it is refused for is not its name.
func TestP41JoinAndOn(t *testing.T) {
	for _, join := range []string{"", "u", "t", "1", "join", "U"} {
		for n := range 4 {
			want := api.ErrState
			if join == "" && n == 0 || (join == "u" || join == "t") && n == 1 {
				want = api.OK
			}
			x := with(query(), func(x *api.Stmt) { x.Join, x.On = join, repeat(yes(), n) })
			checked(t, fmt.Sprintf("join %q on %d", join, n), x, want)
		}
	}
}

func TestP41CountsOfLists(t *testing.T) {
	row := list(num(1))
	for name, x := range map[string]struct {
		make        func(n int) api.Stmt
		least, most int
	}{
		"rows":       {func(n int) api.Stmt { return api.Stmt{Kind: 4, Table: "t", Rows: repeat(row, n)} }, 1, 16},
		"a row":      {func(n int) api.Stmt { return api.Stmt{Kind: 4, Table: "t", Rows: rowsOf(repeat(num(1), n))} }, 1, 8},
		"a last row": {func(n int) api.Stmt { return api.Stmt{Kind: 4, Table: "t", Rows: rowsOf(row, repeat(num(1), n))} }, 1, 8},
		"a first row": {func(n int) api.Stmt {
			return api.Stmt{Kind: 4, Table: "t", Rows: rowsOf(repeat(num(1), n), row)}
		}, 1, 8},
		"sets": {func(n int) api.Stmt {
			return api.Stmt{Kind: 5, Table: "t", Sets: repeat(api.Set{Name: "a", Expr: num(1)}, n)}
		}, 1, 8},
		"an update's where": {func(n int) api.Stmt {
			return api.Stmt{Kind: 5, Table: "t", Sets: []api.Set{{Name: "a"}}, Where: repeat(yes(), n)}
		}, 0, 1},
		"a delete's where": {func(n int) api.Stmt { return api.Stmt{Kind: 6, Table: "t", Where: repeat(yes(), n)} }, 0, 1},
		"a select's where": {func(n int) api.Stmt { return with(query(), func(x *api.Stmt) { x.Where = repeat(yes(), n) }) }, 0, 1},
		"items":            {func(n int) api.Stmt { return with(query(), func(x *api.Stmt) { x.Items = repeat(yes(), n) }) }, 1, 16},
		"a group":          {func(n int) api.Stmt { return with(query(), func(x *api.Stmt) { x.Group = repeat(col("a"), n) }) }, 0, 1},
		"orders": {func(n int) api.Stmt {
			return with(query(), func(x *api.Stmt) { x.Order = repeat(api.Order{N: 1}, n) })
		}, 0, 8},
	} {
		for _, n := range []int{0, 1, 2, 3, 7, 8, 9, 10, 15, 16, 17, 18, 32, 256, 70000} {
			want := api.ErrState
			if n >= x.least && n <= x.most {
				want = api.OK
			}
			checked(t, fmt.Sprint(n, " of ", name), x.make(n), want)
		}
	}
}

func TestP41OrdersAndLimits(t *testing.T) {
	for _, n := range []int{least, -16, -1, 0, 1, 2, 15, 16, 17, 18, 1 << 32, 1<<32 + 1, greatest} {
		want := api.ErrState
		if n >= 1 && n <= 16 {
			want = api.OK
		}
		for _, desc := range []bool{false, true} {
			checked(t, fmt.Sprint("order ", n), with(query(), func(x *api.Stmt) { x.Order = []api.Order{{N: n, Desc: desc}} }), want)
			checked(t, fmt.Sprint("the last order ", n), with(query(), func(x *api.Stmt) {
				x.Order = append(repeat(api.Order{N: 1}, 7), api.Order{N: n, Desc: desc})
			}), want)
		}
	}
	for _, n := range []int{least, -1 << 31, -2, -1, 0, 1, 2, 16, 17, 1<<31 - 1, 1 << 31, 1<<31 + 1, 1 << 32, greatest} {
		want := api.ErrState
		if n >= -1 && n <= 1<<31 {
			want = api.OK
		}
		checked(t, fmt.Sprint("limit ", n), with(query(), func(x *api.Stmt) { x.Limit = n }), want)
		for _, b := range bases() {
			if b.x.Kind != 7 && n != 0 {
				checked(t, b.print+fmt.Sprint(": limit ", n), with(b.x, func(x *api.Stmt) { x.Limit = n }), api.ErrState)
			}
		}
	}
}

func TestP41AGroupIsAColumn(t *testing.T) {
	for _, x := range []struct {
		e    api.Expr
		want api.Errno
	}{
		{col("a"), api.OK},
		{colOf("t", "a"), api.OK},
		{null(), api.ErrState},
		{num(1), api.ErrState},
		{text("a"), api.ErrState},
		{op(neg, col("a")), api.ErrState},
		{op(countAll), api.ErrState},
		{op(maxOf, col("a")), api.ErrState},
		{col("group"), api.ErrState},
		{deep(12), api.ErrState},
		{deep(13), api.ErrDeep},
		{wide(65), api.ErrCount},
	} {
		checked(t, fmt.Sprint("group by ", x.e.Op), with(query(), func(y *api.Stmt) { y.Group = list(x.e) }), x.want)
	}
	bad := with(query(), func(x *api.Stmt) { x.Group = list(num(1)) })
	checked(t, "a where ahead of the group", with(bad, func(x *api.Stmt) { x.Where = list(deep(13)) }), api.ErrDeep)
	checked(t, "an item ahead of the group", with(bad, func(x *api.Stmt) { x.Items = list(wide(65)) }), api.ErrCount)
}

// places are those where expressions of a statement stand, in the order of api.Stmt's fields.
func places(x *api.Stmt) []*api.Expr {
	var l []*api.Expr
	for i := range x.Rows {
		for j := range x.Rows[i] {
			l = append(l, &x.Rows[i][j])
		}
	}
	for i := range x.Sets {
		l = append(l, &x.Sets[i].Expr)
	}
	for _, part := range [][]api.Expr{x.Items, x.On, x.Where, x.Group} {
		for i := range part {
			l = append(l, &part[i])
		}
	}
	return l
}

func TestP41TheFirstExpressionTells(t *testing.T) {
	faults := map[api.Errno]api.Expr{api.ErrDeep: deep(13), api.ErrCount: wide(65), api.ErrState: op(23)}
	for _, b := range bases() {
		n := len(places(&b.x))
		for i := range n {
			for want, first := range faults {
				alone := with(b.x, func(x *api.Stmt) { *places(x)[i] = first })
				checked(t, b.print, alone, want)
				for j := i + 1; j < n; j++ {
					for _, second := range faults {
						checked(t, b.print, with(alone, func(x *api.Stmt) { *places(x)[j] = second }), want)
					}
				}
			}
		}
	}
}

// A statement that may not be is told ahead of its expressions.
func TestP41StateAheadOfExpressions(t *testing.T) {
	for _, b := range bases() {
		for i := range places(&b.x) {
			x := with(b.x, func(x *api.Stmt) { *places(x)[i] = deep(13) })
			checked(t, b.print, with(x, func(x *api.Stmt) { x.Table = "table" }), api.ErrState)
			checked(t, b.print, with(x, func(x *api.Stmt) { x.Limit = -2 }), api.ErrState)
			checked(t, b.print, with(x, func(x *api.Stmt) { x.Index = "i" }), api.ErrState)
			checked(t, b.print, with(x, func(x *api.Stmt) { x.Order = []api.Order{{N: 17}} }), api.ErrState)
		}
	}
}

// changes are of one field each.
func changes() []func(x *api.Stmt) {
	var l []func(x *api.Stmt)
	for kind := range 12 {
		l = append(l, func(x *api.Stmt) { x.Kind = kind })
	}
	for _, s := range []string{"", "u", "1", "key"} {
		l = append(l, func(x *api.Stmt) { x.Table = s }, func(x *api.Stmt) { x.Key = s }, func(x *api.Stmt) { x.Index = s }, func(x *api.Stmt) { x.Join = s })
		l = append(l, func(x *api.Stmt) { x.Columns = append(x.Columns, api.Column{Name: s, Kind: 1}) })
		l = append(l, func(x *api.Stmt) { x.Sets = append(x.Sets, api.Set{Name: s}) })
	}
	for _, e := range []api.Expr{null(), col("a"), op(18), num(-1), deep(13), wide(65)} {
		l = append(l, func(x *api.Stmt) { x.Items = append(x.Items, e) }, func(x *api.Stmt) { x.On = append(x.On, e) },
			func(x *api.Stmt) { x.Where = append(x.Where, e) }, func(x *api.Stmt) { x.Group = append(x.Group, e) },
			func(x *api.Stmt) { x.Rows = append(x.Rows, list(e)) }, func(x *api.Stmt) { x.Sets = append(x.Sets, api.Set{Name: "s", Expr: e}) })
	}
	for _, n := range []int{-2, -1, 0, 1, 17} {
		l = append(l, func(x *api.Stmt) { x.Limit = n }, func(x *api.Stmt) { x.Order = append(x.Order, api.Order{N: n}) })
	}
	return append(l,
		func(x *api.Stmt) { x.Columns = nil }, func(x *api.Stmt) { x.Rows = nil }, func(x *api.Stmt) { x.Sets = nil },
		func(x *api.Stmt) { x.Items = nil }, func(x *api.Stmt) { x.On = nil }, func(x *api.Stmt) { x.Where = nil },
		func(x *api.Stmt) { x.Group = nil }, func(x *api.Stmt) { x.Order = nil },
		func(x *api.Stmt) { x.Rows = append(x.Rows, nil) }, func(x *api.Stmt) { x.Rows = append(x.Rows, repeat(null(), 9)) },
		func(x *api.Stmt) { x.Columns = append(x.Columns, api.Column{Name: "a"}) },
		func(x *api.Stmt) { x.Columns = append(x.Columns, api.Column{Name: "a", Kind: 2, NotNull: true}) },
		emptied)
}

// byFields is a second reading of P4.1: the fields that a kind names are asked, and taken out; what is left is zero.
func byFields(x api.Stmt) api.Errno {
	if x.Kind < 1 || x.Kind > 10 {
		return api.ErrKind
	}
	whole := cloneStmt(x)
	may := true
	name := func(s *string) {
		may, *s = may && syntax.Name(*s), ""
	}
	count := func(n, least, most int) {
		may = may && n >= least && n <= most
	}
	if x.Kind <= 7 {
		name(&x.Table)
	}
	switch x.Kind {
	case 1:
		count(len(x.Columns), 1, 8)
		for _, c := range x.Columns {
			name(&c.Name)
			count(c.Kind, 1, 3)
		}
		name(&x.Key)
		x.Columns = nil
	case 2:
		name(&x.Index)
		name(&x.Key)
	case 4:
		count(len(x.Rows), 1, 16)
		for _, row := range x.Rows {
			count(len(row), 1, 8)
		}
		x.Rows = nil
	case 5:
		count(len(x.Sets), 1, 8)
		for _, s := range x.Sets {
			name(&s.Name)
		}
		count(len(x.Where), 0, 1)
		x.Sets, x.Where = nil, nil
	case 6:
		count(len(x.Where), 0, 1)
		x.Where = nil
	case 7:
		count(len(x.Items), 1, 16)
		count(len(x.On), min(len(x.Join), 1), min(len(x.Join), 1))
		if x.Join != "" {
			name(&x.Join)
		}
		count(len(x.Where), 0, 1)
		count(len(x.Group), 0, 1)
		count(len(x.Order), 0, 8)
		for _, o := range x.Order {
			count(o.N, 1, 16)
		}
		count(x.Limit, -1, 1<<31)
		x.Items, x.On, x.Where, x.Group, x.Order, x.Limit = nil, nil, nil, nil, nil, 0
	}
	left := reflect.ValueOf(x)
	for i := 1; i < left.NumField(); i++ { // all but Kind
		f := left.Field(i)
		may = may && (f.IsZero() || f.Kind() == reflect.Slice && f.Len() == 0)
	}
	if !may {
		return api.ErrState
	}
	for _, e := range places(&whole) {
		if err := byParts(*e); err != api.OK {
			return err
		}
	}
	if len(whole.Group) == 1 && whole.Group[0].Op != 1 {
		return api.ErrState
	}
	return api.OK
}

func TestP41ByFields(t *testing.T) {
	all := changes()
	seen := map[api.Errno]int{}
	hold := func(x api.Stmt) {
		want := byFields(x)
		seen[want]++
		if got := syntax.Check(x); got != want {
			t.Fatalf("Check(%#v) = %d, not %d", x, got, want)
		}
		if s, got := syntax.Print(x); got != want || (s == "") != (want != api.OK) {
			t.Fatalf("Print(%#v) = %q, %d, not %d", x, s, got, want)
		}
	}
	for _, b := range bases() {
		for _, first := range all {
			hold(with(b.x, first))
			for _, second := range all {
				hold(with(with(b.x, first), second))
			}
		}
	}
	for _, e := range []api.Errno{api.OK, api.ErrDeep, api.ErrCount, api.ErrState, api.ErrKind} {
		if seen[e] < 1000 {
			t.Errorf("only %d statements told %d", seen[e], e)
		}
	}
}
