package eval_test

import (
	"fmt"
	"math"
	"strings"
	"testing"

	"switchback/api"
	"switchback/eval"
	"switchback/value"
)

const (
	least    = math.MinInt64
	greatest = math.MaxInt64
)

const (
	neg = iota + 2
	not
	add
	sub
	mul
	div
	equal
	unlike
	below
	atMost
	above
	atLeast
	and
	or
	isNull
	isNotNull
	countAll
	count
	sum
	minOf
	maxOf
)

var (
	null = api.Value{}
	no   = api.Value{Kind: 2}
	yes  = api.Value{Kind: 2, N: 1}
)

func num(n int) api.Value { return api.Value{Kind: 1, N: n} }

func text(s string) api.Value { return api.Value{Kind: 3, Text: s} }

func is(b bool) api.Value {
	if b {
		return yes
	}
	return no
}

func lit(v api.Value) api.Expr { return api.Expr{Value: v} }

// at is the column at a place.
func at(place int) api.Expr { return api.Expr{Op: 1, Value: num(place)} }

func op(n int, args ...api.Expr) api.Expr { return api.Expr{Op: n, Args: args} }

// values are some of each kind.
func values() []api.Value {
	return []api.Value{
		null, no, yes,
		num(0), num(1), num(-1), num(2), num(-7), num(least), num(greatest),
		text(""), text("a"), text("b"), text("true"), text("\x00\xff"), text(strings.Repeat("z", 64)),
	}
}

// wrong are values that may not be.
func wrong() []api.Value {
	return []api.Value{
		{Kind: -1}, {Kind: 4}, {Kind: least, N: 1}, {Kind: greatest, Text: "a"},
		{N: 1}, {N: least}, {Text: "a"},
		{Kind: 1, N: 1, Text: "1"},
		{Kind: 2, N: 2}, {Kind: 2, N: -1}, {Kind: 2, Text: "a"}, {Kind: 2, N: 1, Text: "true"}, {Kind: 2, N: greatest},
		{Kind: 3, N: 1}, {Kind: 3, N: -1, Text: "a"}, text(strings.Repeat("z", 65)), text(strings.Repeat("z", 1000)),
	}
}

func all() []api.Value { return append(values(), wrong()...) }

// numbersOfNoPlace are places that a row of n values has not.
func numbersOfNoPlace(n int) []int {
	return []int{-1, -2, least, least + 1, n, n + 1, 1 << 32, 1<<32 + 1, greatest}
}

// opsThatAreNone are those that Eval refuses: it knows no aggregates.
func opsThatAreNone() []int {
	return []int{-1, -2, -14, least, least + 14, countAll, count, sum, minOf, maxOf, 23, 24, 1 << 32, 1<<32 + 1, 1<<32 + and, greatest}
}

func tells(t *testing.T, what string, e api.Expr, row []api.Value, want api.Value) {
	t.Helper()
	if v, err := eval.Eval(e, row); v != want || err != api.OK {
		t.Errorf("%s: Eval = %v, %d, not %v", what, v, err, want)
	}
}

func refuses(t *testing.T, what string, e api.Expr, row []api.Value, want api.Errno) {
	t.Helper()
	if v, err := eval.Eval(e, row); v != null || err != want {
		t.Errorf("%s: Eval = %v, %d, not %d", what, v, err, want)
	}
	if b, err := eval.True(e, row); b || err != want {
		t.Errorf("%s: True = %t, %d, not %d", what, b, err, want)
	}
}

// faults are expressions that tell an error, each another one.
func faults() map[api.Errno]api.Expr {
	return map[api.Errno]api.Expr{
		api.ErrZero:   op(div, lit(num(1)), lit(num(0))),
		api.ErrOver:   op(add, lit(num(greatest)), lit(num(1))),
		api.ErrType:   op(not, lit(num(1))),
		api.ErrColumn: at(-1),
		api.ErrArg:    op(countAll),
		api.ErrCount:  op(neg),
		api.ErrDeep:   deep(13, neg, lit(num(1))),
	}
}

// deep has n parts within each other, the last of them e.
func deep(n int, o int, e api.Expr) api.Expr {
	for range n - 1 {
		e = op(o, e)
	}
	return e
}

// The chapter's example.
func TestP81Example(t *testing.T) {
	tells(t, "and(false, 1 / 0)", op(and, lit(no), faults()[api.ErrZero]), nil, no)
}

// A literal is itself, too where it may not be; what else stands in it is not asked.
func TestP81Literals(t *testing.T) {
	for _, v := range all() {
		for _, row := range [][]api.Value{nil, {}, values()} {
			tells(t, "a literal", lit(v), row, v)
			tells(t, "a literal with names", api.Expr{Value: v, Table: "t", Name: "a"}, row, v)
			tells(t, "a literal with an empty list", api.Expr{Value: v, Args: []api.Expr{}}, row, v)
		}
	}
}

func TestP81Columns(t *testing.T) {
	row := all()
	for i, v := range row {
		tells(t, fmt.Sprint("column ", i), at(i), row, v)
		tells(t, fmt.Sprint("the last column ", i), at(i), row[:i+1], v)
		refuses(t, fmt.Sprint("behind the last column ", i), at(i), row[:i], api.ErrColumn)
		for _, place := range []api.Value{{N: i}, {Kind: 3, N: i, Text: "7"}, {Kind: -5, N: i}} { // the N alone is its place
			tells(t, fmt.Sprint("a place of kind ", place.Kind), api.Expr{Op: 1, Value: place, Table: "t", Name: "a"}, row, v)
		}
	}
	for n := range len(row) {
		for _, place := range numbersOfNoPlace(n) {
			refuses(t, fmt.Sprint("place ", place, " of ", n), at(place), row[:n], api.ErrColumn)
		}
	}
	refuses(t, "of no row", at(0), nil, api.ErrColumn)
	long := make([]api.Value, 100000)
	long[99999] = text("end")
	tells(t, "the last of a long row", at(99999), long, text("end"))
}

// Each op that has one Arg or two is what package value makes of them, literals or columns.
func TestP81OpsOfOneArg(t *testing.T) {
	calls := map[int]func(a api.Value) (api.Value, api.Errno){neg: value.Neg, not: value.Not}
	for o, call := range calls {
		for _, a := range all() {
			want, err := call(a)
			for what, e := range map[string]api.Expr{"literal": op(o, lit(a)), "column": op(o, at(1))} {
				if v, told := eval.Eval(e, []api.Value{yes, a}); v != want || told != err {
					t.Errorf("op %d of the %s %v = %v, %d, not %v, %d", o, what, a, v, told, want, err)
				}
			}
		}
	}
}

func TestP81OpsOfTwoArgs(t *testing.T) {
	for o := add; o <= atLeast; o++ {
		for _, a := range all() {
			for _, b := range all() {
				want, err := value.Reckon(o, a, b)
				row := []api.Value{b, null, a}
				for what, e := range map[string]api.Expr{
					"literals":             op(o, lit(a), lit(b)),
					"columns":              op(o, at(2), at(0)),
					"a literal, a column":  op(o, lit(a), at(0)),
					"a column, a literal":  op(o, at(2), lit(b)),
					"with names that rest": {Op: o, Args: []api.Expr{at(2), lit(b)}, Table: "t", Name: "a", Value: text("x")},
				} {
					if v, told := eval.Eval(e, row); v != want || told != err {
						t.Errorf("op %d of %v, %v (%s) = %v, %d, not %v, %d", o, a, b, what, v, told, want, err)
					}
				}
			}
		}
	}
}

func TestP81OneByOne(t *testing.T) {
	for _, x := range []struct {
		e    api.Expr
		want api.Value
		err  api.Errno
	}{
		{op(neg, lit(num(5))), num(-5), api.OK},
		{op(neg, lit(null)), null, api.OK},
		{op(neg, lit(num(least))), null, api.ErrOver},
		{op(neg, lit(yes)), null, api.ErrType},
		{op(not, lit(yes)), no, api.OK},
		{op(not, lit(no)), yes, api.OK},
		{op(not, lit(null)), null, api.OK},
		{op(not, lit(text("a"))), null, api.ErrType},
		{op(add, lit(num(2)), lit(num(3))), num(5), api.OK},
		{op(sub, lit(num(2)), lit(num(3))), num(-1), api.OK},
		{op(mul, lit(num(2)), lit(num(3))), num(6), api.OK},
		{op(div, lit(num(-7)), lit(num(2))), num(-3), api.OK},
		{op(div, lit(num(2)), lit(num(3))), num(0), api.OK},
		{op(div, lit(null), lit(num(0))), null, api.OK},
		{op(div, lit(num(7)), lit(num(0))), null, api.ErrZero},
		{op(add, lit(text("a")), lit(null)), null, api.ErrType},
		{op(equal, lit(num(2)), lit(num(3))), no, api.OK},
		{op(unlike, lit(num(2)), lit(num(3))), yes, api.OK},
		{op(below, lit(num(2)), lit(num(3))), yes, api.OK},
		{op(atMost, lit(text("b")), lit(text("ab"))), no, api.OK},
		{op(above, lit(yes), lit(no)), yes, api.OK},
		{op(atLeast, lit(num(2)), lit(num(3))), no, api.OK},
		{op(equal, lit(null), lit(null)), null, api.OK},
		{op(below, lit(num(2)), lit(text("3"))), null, api.ErrType},
	} {
		if v, err := eval.Eval(x.e, nil); v != x.want || err != x.err {
			t.Errorf("Eval(%v) = %v, %d, not %v, %d", x.e, v, err, x.want, x.err)
		}
	}
}

// Parts within parts: (a + 2) * -b - 9 / c, of a row.
func TestP81PartsWithinParts(t *testing.T) {
	e := op(sub, op(mul, op(add, at(0), lit(num(2))), op(neg, at(1))), op(div, lit(num(9)), at(2)))
	tells(t, "numbers", e, []api.Value{num(3), num(4), num(2)}, num(-24))
	tells(t, "NULL ahead", e, []api.Value{null, num(4), num(2)}, null)
	tells(t, "NULL behind", e, []api.Value{num(3), num(4), null}, null)
	refuses(t, "by 0", e, []api.Value{num(3), num(4), num(0)}, api.ErrZero)
	refuses(t, "too great, ahead of by 0", e, []api.Value{num(greatest), num(4), num(0)}, api.ErrOver)
	refuses(t, "a truth", e, []api.Value{num(3), yes, num(0)}, api.ErrType)
	refuses(t, "a row that is short", e, []api.Value{num(3), num(4)}, api.ErrColumn)
	refuses(t, "too great, in a row that is short", e, []api.Value{num(greatest), num(4)}, api.ErrOver)
}

func TestP81IsNull(t *testing.T) {
	for _, v := range all() {
		for _, e := range []api.Expr{lit(v), at(0)} {
			tells(t, fmt.Sprint(v, " is null"), op(isNull, e), []api.Value{v}, is(v.Kind == 0))
			tells(t, fmt.Sprint(v, " is not null"), op(isNotNull, e), []api.Value{v}, is(v.Kind != 0))
		}
	}
	tells(t, "(1 = NULL) is null", op(isNull, op(equal, lit(num(1)), lit(null))), nil, yes)
	tells(t, "(NULL is null) is not null", op(isNotNull, op(isNull, lit(null))), nil, yes)
	for err, e := range faults() {
		refuses(t, "of a fault is null", op(isNull, e), nil, err)
		refuses(t, "of a fault is not null", op(isNotNull, e), nil, err)
	}
}

// The errors of ops are those of their first Arg, then of their second one, then their own.
func TestP81TheFirstErrorEndsIt(t *testing.T) {
	for first, a := range faults() {
		for o := neg; o <= isNotNull; o++ {
			if o == neg || o == not || o >= isNull {
				refuses(t, fmt.Sprint("op ", o), op(o, a), nil, first)
				continue
			}
			for _, v := range values() {
				refuses(t, fmt.Sprint("op ", o, " of a fault and ", v), op(o, a, lit(v)), nil, first)
				if o == and && v == no || o == or && v == yes {
					continue
				}
				refuses(t, fmt.Sprint("op ", o, " of ", v, " and a fault"), op(o, lit(v), a), nil, first)
			}
			for _, b := range faults() {
				refuses(t, fmt.Sprint("op ", o, " of two faults"), op(o, a, b), nil, first)
			}
		}
	}
}

func TestP81OpsThatAreNone(t *testing.T) {
	row := values()
	for _, o := range opsThatAreNone() {
		for n := range 4 {
			args := []api.Expr{at(0), lit(num(1)), op(neg)}[:n]
			refuses(t, fmt.Sprint("op ", o, " of ", n), op(o, args...), row, api.ErrArg)
			refuses(t, fmt.Sprint("op ", o, " of ", n, " within"), op(isNull, op(o, args...)), row, api.ErrArg)
		}
	}
}

func TestP81OtherNumbersOfArgs(t *testing.T) {
	row := values()
	for o := 0; o <= isNotNull; o++ {
		want := 2
		switch o {
		case 0, 1:
			want = 0
		case neg, not, isNull, isNotNull:
			want = 1
		}
		for n := range 5 {
			args := []api.Expr{lit(no), lit(no), op(div, lit(num(1)), lit(num(0))), op(99), at(-1)}[:n]
			e := api.Expr{Op: o, Args: args}
			if n != want {
				refuses(t, fmt.Sprint("op ", o, " of ", n), e, row, api.ErrCount)
				refuses(t, fmt.Sprint("op ", o, " of ", n, " within"), op(isNull, e), row, api.ErrCount)
			} else if _, err := eval.Eval(e, row); err == api.ErrCount {
				t.Errorf("op %d of %d: ErrCount", o, n)
			}
		}
		refuses(t, fmt.Sprint("op ", o, " of very many"), api.Expr{Op: o, Args: make([]api.Expr, 100000)}, row, api.ErrCount)
	}
}

func TestP81Deep(t *testing.T) {
	tells(t, "12 deep", deep(12, neg, lit(num(5))), nil, num(-5))
	tells(t, "12 deep", deep(12, isNull, at(0)), []api.Value{null}, no)
	for _, n := range []int{13, 14, 24, 1000, 60000} {
		refuses(t, fmt.Sprint(n, " deep"), deep(n, neg, lit(num(5))), nil, api.ErrDeep)
		refuses(t, fmt.Sprint(n, " deep"), deep(n, isNull, at(0)), []api.Value{null}, api.ErrDeep)
	}
	left, right := lit(num(1)), lit(num(1))
	for range 11 {
		left, right = op(add, left, lit(num(1))), op(add, lit(num(1)), right)
	}
	tells(t, "12 deep to the left", left, nil, num(12))
	tells(t, "12 deep to the right", right, nil, num(12))
	refuses(t, "13 deep to the left", op(add, left, lit(num(1))), nil, api.ErrDeep)
	refuses(t, "13 deep to the right", op(add, lit(num(1)), right), nil, api.ErrDeep)
	full := lit(num(1))
	for range 11 {
		full = op(add, full, full)
	}
	tells(t, "12 deep everywhere", full, nil, num(2048))
	itself := []api.Expr{lit(num(1)), lit(num(2))}
	itself[0], itself[1] = op(add, itself...), op(add, itself...)
	refuses(t, "a part of itself", itself[0], nil, api.ErrDeep)
	endless := make([]api.Expr, 2)
	endless[0], endless[1] = op(or, endless...), op(or, endless...)
	refuses(t, "two of itself", endless[1], nil, api.ErrDeep)
}

// Part by part, as it is reckoned: ErrDeep, ErrArg, ErrCount, then what is said of its op.
func TestP81WhichErrorGoesAhead(t *testing.T) {
	tooMany := []api.Expr{at(-1), op(99), faults()[api.ErrZero]}
	for what, x := range map[string]struct {
		e    api.Expr
		want api.Errno
	}{
		"deep, and no op":                    {deep(13, neg, op(99)), api.ErrDeep},
		"deep, and an aggregate":             {deep(13, neg, op(countAll)), api.ErrDeep},
		"deep, and too few Args":             {deep(13, neg, op(neg)), api.ErrDeep},
		"deep, and no column":                {deep(13, neg, at(-1)), api.ErrDeep},
		"just not deep, and no op":           {deep(12, neg, op(99)), api.ErrArg},
		"just not deep, and too few Args":    {deep(12, neg, op(neg)), api.ErrCount},
		"just not deep, and no column":       {deep(12, neg, at(-1)), api.ErrColumn},
		"no op, and too many Args":           {op(99, tooMany...), api.ErrArg},
		"an aggregate, and too many Args":    {op(countAll, tooMany...), api.ErrArg},
		"an op below all, of a deep part":    {op(-1, deep(13, neg, lit(null))), api.ErrArg},
		"too many Args, one of them no op":   {op(neg, tooMany...), api.ErrCount},
		"too many Args of a column":          {api.Expr{Op: 1, Value: num(-1), Args: tooMany[:1]}, api.ErrCount},
		"too many Args, one of them deep":    {op(not, deep(12, neg, lit(null)), lit(no)), api.ErrCount},
		"too few Args, one of them deep":     {op(add, deep(12, neg, lit(null))), api.ErrCount},
		"an Arg of another type, and deep":   {op(add, op(neg, lit(yes)), deep(12, neg, lit(null))), api.ErrType},
		"deep, and an Arg of another type":   {op(add, deep(12, neg, lit(null)), op(neg, lit(yes))), api.ErrDeep},
		"by 0, and no op":                    {op(add, faults()[api.ErrZero], op(99)), api.ErrZero},
		"no op, and by 0":                    {op(add, op(99), faults()[api.ErrZero]), api.ErrArg},
		"a text, and no column":              {op(add, lit(text("a")), at(-1)), api.ErrColumn},
		"a text and a number, and by 0":      {op(add, op(add, lit(text("a")), lit(num(1))), faults()[api.ErrZero]), api.ErrType},
		"a number and by 0":                  {op(and, lit(num(1)), faults()[api.ErrZero]), api.ErrZero},
		"a number or too few Args":           {op(or, lit(num(1)), op(neg)), api.ErrCount},
		"not a number, or true":              {op(or, op(not, lit(num(1))), lit(yes)), api.ErrType},
		"no column and false":                {op(and, at(-1), lit(no)), api.ErrColumn},
		"false and true, of three":           {op(and, lit(no), lit(yes), lit(yes)), api.ErrCount},
		"false and, of one":                  {op(and, lit(no)), api.ErrCount},
		"a truth that may not be, and by 0":  {op(and, lit(api.Value{Kind: 2, Text: "a"}), faults()[api.ErrZero]), api.ErrZero},
		"a truth that may not be, or by 0":   {op(or, lit(api.Value{Kind: 2, N: 1, Text: "a"}), faults()[api.ErrZero]), api.ErrZero},
		"a truth that may not be, and false": {op(and, lit(api.Value{Kind: 2, Text: "a"}), lit(no)), api.ErrType},
		"a number and false":                 {op(and, lit(num(0)), lit(no)), api.ErrType},
		"a number or true":                   {op(or, lit(num(1)), lit(yes)), api.ErrType},
	} {
		refuses(t, what, x.e, nil, x.want)
	}
}
