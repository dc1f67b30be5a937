package syntax

import (
	"slices"

	"switchback/api"
)

// Same tells whether a and b both may be, and are one in all fields.
func Same(a api.Stmt, b api.Stmt) bool {
	// What may be is bounded, so that going through it ends.
	if Check(a) != api.OK || Check(b) != api.OK {
		return false
	}
	return a.Kind == b.Kind && a.Table == b.Table && a.Key == b.Key && a.Index == b.Index &&
		a.Join == b.Join && a.Limit == b.Limit &&
		slices.Equal(a.Columns, b.Columns) && slices.Equal(a.Order, b.Order) &&
		slices.EqualFunc(a.Rows, b.Rows, sameExprs) && slices.EqualFunc(a.Sets, b.Sets, sameSet) &&
		sameExprs(a.Items, b.Items) && sameExprs(a.On, b.On) &&
		sameExprs(a.Where, b.Where) && sameExprs(a.Group, b.Group)
}

func sameSet(a api.Set, b api.Set) bool {
	return a.Name == b.Name && sameExpr(a.Expr, b.Expr)
}

func sameExprs(a []api.Expr, b []api.Expr) bool {
	return slices.EqualFunc(a, b, sameExpr)
}

func sameExpr(a api.Expr, b api.Expr) bool {
	return a.Op == b.Op && a.Value == b.Value && a.Table == b.Table && a.Name == b.Name && sameExprs(a.Args, b.Args)
}
