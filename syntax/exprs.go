package syntax

import (
	"iter"
	"slices"

	"switchback/api"
	"switchback/value"
)

// CheckExpr tells whether e may be, or what is at fault with its first part
// that may not be.
func CheckExpr(e api.Expr) (err api.Errno) {
	defer func() {
		if fault := recover(); fault != nil {
			err = fault.(api.Errno)
		}
	}()
	var t tally
	t.add(e, 1)
	return api.OK
}

// A tally counts an expression's parts. At the first that may not be it panics
// with the error's number, which CheckExpr recovers: so it ends, even if a
// part is its own Arg.
type tally struct {
	parts int
}

func (t *tally) add(e api.Expr, deep int) {
	t.parts++
	switch {
	case deep > api.MaxDepth:
		panic(api.ErrDeep)
	case t.parts > api.MaxExpr:
		panic(api.ErrCount)
	case !isPart(e):
		panic(api.ErrState)
	}
	for _, arg := range e.Args {
		t.add(arg, deep+1)
	}
}

// isPart tells whether e may be, but for its Args.
func isPart(e api.Expr) bool {
	form, is := formOfOp(e.Op)
	if !is || len(e.Args) != form.args {
		return false
	}
	switch e.Op {
	case opLiteral:
		return e.Table == "" && e.Name == "" && isLiteral(e.Value)
	case opColumn:
		return e.Value == api.Value{} && (e.Table == "" || Name(e.Table)) && Name(e.Name)
	}
	return e.Value == api.Value{} && e.Table == "" && e.Name == ""
}

// A number below 0 is what neg makes of another one, so that no two
// expressions have one print.
func isLiteral(v api.Value) bool {
	return value.Check(v) == api.OK && (v.Kind != valueNumber || v.N >= 0)
}

// expressions hands out a statement's expressions, in the order of its fields.
func expressions(x api.Stmt) iter.Seq[api.Expr] {
	return func(yield func(e api.Expr) bool) {
		lists := slices.Clone(x.Rows)
		for _, s := range x.Sets {
			lists = append(lists, []api.Expr{s.Expr})
		}
		lists = append(lists, x.Items, x.On, x.Where, x.Group)
		for _, l := range lists {
			for _, e := range l {
				if !yield(e) {
					return
				}
			}
		}
	}
}
