package eval_test

import (
	"fmt"
	"testing"

	"switchback/api"
	"switchback/eval"
)

// A side is an Arg of and, or or: a truth, or an expression that tells an error.
type side struct {
	e   api.Expr
	v   api.Value
	err api.Errno
}

func sides() []side {
	var l []side
	for i, v := range []api.Value{no, null, yes} {
		l = append(l, side{lit(v), v, api.OK}, side{at(i), v, api.OK})
	}
	for err, e := range faults() {
		l = append(l, side{e, null, err})
	}
	return l
}

// Each pair of truths, each error ahead and behind: false and anything is false, true or anything is true.
func TestP81AndOr(t *testing.T) {
	row := []api.Value{no, null, yes}
	ands := map[[2]api.Value]api.Value{
		{no, no}: no, {no, null}: no, {no, yes}: no,
		{null, no}: no, {null, null}: null, {null, yes}: null,
		{yes, no}: no, {yes, null}: null, {yes, yes}: yes,
	}
	ors := map[[2]api.Value]api.Value{
		{no, no}: no, {no, null}: null, {no, yes}: yes,
		{null, no}: null, {null, null}: null, {null, yes}: yes,
		{yes, no}: yes, {yes, null}: yes, {yes, yes}: yes,
	}
	for _, x := range []struct {
		op     int
		enough api.Value
		table  map[[2]api.Value]api.Value
	}{{and, no, ands}, {or, yes, ors}} {
		for _, a := range sides() {
			for _, b := range sides() {
				e := op(x.op, a.e, b.e)
				what := fmt.Sprintf("op %d of %v (%d) and %v (%d)", x.op, a.v, a.err, b.v, b.err)
				switch {
				case a.err != api.OK:
					refuses(t, what, e, row, a.err)
				case a.v == x.enough:
					tells(t, what, e, row, x.enough)
				case b.err != api.OK:
					refuses(t, what, e, row, b.err)
				default:
					tells(t, what, e, row, x.table[[2]api.Value{a.v, b.v}])
				}
			}
		}
	}
}

// What is neither a truth nor NULL is refused, wherever it stands and is asked.
func TestP81AndOrOfOtherKinds(t *testing.T) {
	for _, v := range all() {
		if v == no || v == yes || v == null {
			continue
		}
		for _, truth := range []api.Value{no, null, yes} {
			for _, o := range []int{and, or} {
				refuses(t, fmt.Sprintf("%v, op %d, %v", v, o, truth), op(o, lit(v), lit(truth)), nil, api.ErrType)
				what := fmt.Sprintf("%v, op %d, %v", truth, o, v)
				if enough := is(o == or); truth == enough {
					tells(t, what, op(o, lit(truth), lit(v)), nil, enough)
				} else {
					refuses(t, what, op(o, lit(truth), lit(v)), nil, api.ErrType)
				}
			}
		}
	}
}

// What is not asked does not matter, however deep it stands.
func TestP81WhatIsNotAsked(t *testing.T) {
	row := []api.Value{num(0), null}
	for err, fault := range faults() {
		byZero := op(and, op(unlike, at(0), lit(num(0))), fault)
		tells(t, fmt.Sprint("0 <> 0 and fault ", err), byZero, row, no)
		tells(t, fmt.Sprint("0 = 0 or fault ", err), op(or, op(equal, at(0), lit(num(0))), fault), row, yes)
		tells(t, "deeper", op(not, op(or, op(and, lit(no), fault), op(or, lit(yes), fault))), row, no)
		tells(t, "not known, then enough", op(and, op(and, at(1), lit(no)), fault), row, no)
		refuses(t, "not known", op(and, at(1), fault), row, err)
		refuses(t, "what and has enough of, or has not", op(or, op(and, lit(no), fault), fault), row, err)
		refuses(t, "what or has enough of, and has not", op(and, op(or, lit(yes), fault), fault), row, err)
	}
	endless := make([]api.Expr, 2)
	endless[0], endless[1] = lit(no), op(and, endless...)
	tells(t, "false and itself", endless[1], nil, no)
	last := lit(no)
	for range 11 {
		last = op(and, lit(yes), last)
	}
	tells(t, "true and .. false, 12 deep", last, nil, no)
	refuses(t, "13 deep", op(and, lit(yes), last), nil, api.ErrDeep)
	tells(t, "13 deep, but not asked so far", op(and, lit(no), last), nil, no)
}

func TestP81True(t *testing.T) {
	for _, v := range all() {
		for _, e := range []api.Expr{lit(v), at(0)} {
			want, wrong := v == yes, api.OK
			if v.Kind != 2 && v.Kind != 0 {
				wrong = api.ErrType
			}
			if b, err := eval.True(e, []api.Value{v}); b != want || err != wrong {
				t.Errorf("True of %v = %t, %d, not %t, %d", v, b, err, want, wrong)
			}
		}
	}
}

func TestP81TrueOneByOne(t *testing.T) {
	row := []api.Value{num(5), null, text("x"), yes}
	for what, x := range map[string]struct {
		e    api.Expr
		want bool
		err  api.Errno
	}{
		"true":                        {lit(yes), true, api.OK},
		"false":                       {lit(no), false, api.OK},
		"NULL":                        {lit(null), false, api.OK},
		"a truth of 2":                {lit(api.Value{Kind: 2, N: 2}), false, api.OK},
		"a truth with a text":         {lit(api.Value{Kind: 2, N: 1, Text: "x"}), false, api.OK},
		"a NULL with a number":        {lit(api.Value{N: 1}), false, api.OK},
		"a number":                    {lit(num(1)), false, api.ErrType},
		"a text":                      {lit(text("true")), false, api.ErrType},
		"no kind":                     {lit(api.Value{Kind: 4, N: 1}), false, api.ErrType},
		"below all kinds":             {lit(api.Value{Kind: -2, N: 1}), false, api.ErrType},
		"a column":                    {at(3), true, api.OK},
		"no column":                   {at(4), false, api.ErrColumn},
		"a = 5":                       {op(equal, at(0), lit(num(5))), true, api.OK},
		"a = 6":                       {op(equal, at(0), lit(num(6))), false, api.OK},
		"a = NULL":                    {op(equal, at(0), at(1)), false, api.OK},
		"not a = NULL":                {op(not, op(equal, at(0), at(1))), false, api.OK},
		"a = 'x'":                     {op(equal, at(0), at(2)), false, api.ErrType},
		"a / 0 = 1, a number by 0":    {op(equal, op(div, at(0), lit(num(0))), lit(num(1))), false, api.ErrZero},
		"a + 1":                       {op(add, at(0), lit(num(1))), false, api.ErrType},
		"a + NULL":                    {op(add, at(0), at(1)), false, api.OK},
		"a + 'x', of its own ErrType": {op(add, at(0), at(2)), false, api.ErrType},
		"b is null":                   {op(isNull, at(1)), true, api.OK},
		"b is null and d":             {op(and, op(isNull, at(1)), at(3)), true, api.OK},
		"false or NULL":               {op(or, lit(no), lit(null)), false, api.OK},
	} {
		if b, err := eval.True(x.e, row); b != x.want || err != x.err {
			t.Errorf("%s: True = %t, %d, not %t, %d", what, b, err, x.want, x.err)
		}
	}
}
