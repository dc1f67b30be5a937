package check_test

import (
	"slices"
	"strings"
	"testing"

	"switchback/api"
	"switchback/check"
)

func TestP72Select(t *testing.T) {
	s := "select a, t.b, c = 'x', null, n + 1, 'y', c, -a from t where b order by 2 desc, 8, 1 limit 0"
	answers(t, s, stmt(s), 2, -1, -1, []int{1, 2, 2, 0, 1, 3, 3, 1}, func(x *api.Stmt) {
		x.Items = []api.Expr{at(0), at(1), op(equal, at(2), expr("'x'")), {}, op(add, at(3), num(1)), expr("'y'"), at(2), op(neg, at(0))}
		x.Where = []api.Expr{at(1)}
	})
	s = "select k from one"
	answers(t, s, stmt(s), 1, -1, -1, []int{3}, func(x *api.Stmt) { x.Items = []api.Expr{at(0)} })
	s = "select a, b from t order by 2 limit 7"
	answers(t, s, stmt(s), 2, -1, -1, []int{1, 2}, func(x *api.Stmt) { x.Items = []api.Expr{at(0), at(1)} })
	s = "select 1" + strings.Repeat(", 1", 15) + " from t order by 16, 16, 16, 16, 1, 1 desc, 16 desc, 2 limit 2147483648"
	answers(t, s, stmt(s), 2, -1, -1, slices.Repeat([]int{1}, 16), func(x *api.Stmt) {})
	for s, want := range map[string]api.Expr{"null": {}, "true": expr("true"), "a = n": op(equal, at(0), at(3)), "not null": expr("not null")} {
		answers(t, s, stmt("select 1 from t where "+s), 2, -1, -1, []int{1}, func(x *api.Stmt) { x.Where = []api.Expr{want} })
	}
}

// A row of a join has its first table's columns, then its second one's, whichever comes first in the catalog.
func TestP72Join(t *testing.T) {
	s := "select t.a, u.a, b, f, wide.k0 from t join u on t.a = f where e = b"
	refusesStmt(t, s, some(), stmt(s), api.ErrTable)
	s = "select t.a, u.a, b, f from t join u on t.a = f where e = b"
	answers(t, s, stmt(s), 2, 3, -1, []int{1, 3, 2, 1}, func(x *api.Stmt) {
		x.Items = []api.Expr{at(0), at(5), at(1), at(7)}
		x.On, x.Where = []api.Expr{op(equal, at(0), at(7))}, []api.Expr{op(equal, at(6), at(1))}
	})
	s = "select t.a, u.a, b, f from u join t on t.a = f where e = b"
	answers(t, s, stmt(s), 3, 2, -1, []int{1, 3, 2, 1}, func(x *api.Stmt) {
		x.Items = []api.Expr{at(4), at(1), at(5), at(3)}
		x.On, x.Where = []api.Expr{op(equal, at(4), at(3))}, []api.Expr{op(equal, at(2), at(5))}
	})
	s = "select k7, count(k) from wide join one on null group by k7"
	answers(t, s, stmt(s), 4, 1, 7, []int{2, 1}, func(x *api.Stmt) {
		x.Items, x.Group = []api.Expr{at(7), op(count, at(8))}, []api.Expr{at(7)}
	})
	// A table may have the name of another one's column.
	s = "select t, a.t, one.k from a join one on u group by a.t"
	refusesStmt(t, s, some(), stmt(s), api.ErrArg)
	s = "select t, a.t from a join one on u group by a.t"
	answers(t, s, stmt(s), 0, 1, 0, []int{1, 1}, func(x *api.Stmt) {
		x.Items, x.On, x.Group = []api.Expr{at(0), at(0)}, []api.Expr{at(1)}, []api.Expr{at(0)}
	})
}

func TestP72Gathered(t *testing.T) {
	s := "select count(*), sum(n + a), min(c) = max(t.c), 1 from t where b"
	answers(t, s, stmt(s), 2, -1, -1, []int{1, 1, 2, 1}, func(x *api.Stmt) {
		x.Items = []api.Expr{op(countAll), op(sum, op(add, at(3), at(0))), op(equal, op(minOf, at(2)), op(maxOf, at(2))), num(1)}
		x.Where = []api.Expr{at(1)}
	})
	s = "select b, t.b, not b, count(a) + n, max(c) from t group by n"
	refusesStmt(t, s, some(), stmt(s), api.ErrArg)
	s = "select b, t.b, not b = (count(a) > 0), max(c) from t group by b"
	answers(t, s, stmt(s), 2, -1, 1, []int{2, 2, 2, 3}, func(x *api.Stmt) {
		x.Items = []api.Expr{at(1), at(1), op(not, op(equal, at(1), op(above, op(count, at(0)), num(0)))), op(maxOf, at(2))}
		x.Group = []api.Expr{at(1)}
	})
	// A Group needs no aggregate, and no Item that is its.
	for s, item := range map[string]api.Expr{"1": num(1), "n": at(3), "t.n + 1": op(add, at(3), num(1)), "count(b)": op(count, at(1)), "count(n)": op(count, at(3))} {
		answers(t, s, stmt("select "+s+" from t group by t.n"), 2, -1, 3, []int{1}, func(x *api.Stmt) {
			x.Items, x.Group = []api.Expr{item}, []api.Expr{at(3)}
		})
	}
	s = "select u.a, count(t.a) from t join u on true group by u.a"
	answers(t, s, stmt(s), 2, 3, 5, []int{3, 1}, func(x *api.Stmt) {
		x.Items, x.Group = []api.Expr{at(5), op(count, at(0))}, []api.Expr{at(5)}
	})
}

// A column in an item of a gathered select that is in no aggregate is the Group's.
func TestP72Strays(t *testing.T) {
	refusesTexts(t, map[string]api.Errno{
		"select a, count(*) from t":                             api.ErrArg,
		"select count(*), a from t":                             api.ErrArg,
		"select count(*) + a from t":                            api.ErrArg,
		"select a + count(*) from t":                            api.ErrArg,
		"select max(a) + a from t":                              api.ErrArg,
		"select 1, 2, -n, 3, 4 = (5 + sum(a)) from t":           api.ErrArg,
		"select c is null, min(c) from t":                       api.ErrArg,
		"select a from t group by b":                            api.ErrArg,
		"select b, a from t group by b":                         api.ErrArg,
		"select a, b from t group by b":                         api.ErrArg,
		"select b, not (a = 1) from t group by b":               api.ErrArg,
		"select count(*), max(a) = (1 + -n) from t group by a":  api.ErrArg,
		"select u.a from t join u on true group by t.a":         api.ErrArg,
		"select t.a from t join u on true group by u.a":         api.ErrArg,
		"select t.a, count(*) from t join u on true":            api.ErrArg,
		"select t.a, u.a from t join u on true group by t.a":    api.ErrArg,
		"select a, count(*) from t where b order by 1, 2":       api.ErrArg,
		"select a, count(*) from t order by 3":                  api.ErrArg, // ahead of an order that is too high
		"select a, count(*), nowhere from t":                    api.ErrColumn,
		"select a, count(*), x.a from t":                        api.ErrTable,
		"select a, count(*), c + 1 from t":                      api.ErrType,
		"select a, count(count(*)) from t":                      api.ErrArg,
		"select a, nowhere from t group by b":                   api.ErrColumn, // all items are resolved ahead
		"select a, c + 1 from t group by b":                     api.ErrType,
		"select a, count(*) from t where a":                     api.ErrType,
		"select a, count(*) from t group by nowhere":            api.ErrColumn,
		"select b from t join u on t.a = f group by n limit 1":  api.ErrArg,
		"select n, max(a) + min(a) * n - n from t group by a":   api.ErrArg,
		"select count(a), count(n) + count(c) = a from t":       api.ErrArg,
		"select null, 'x' = c from t group by a order by 1":     api.ErrArg,
		"select sum(a), sum(n) from t group by c order by 1, 3": api.ErrRange,
	})
	// Where no aggregate stands among the items, and there is no Group, all columns are welcome.
	for _, s := range []string{"select a, b, c, n from t", "select a + n, not b from t where a = 1", "select t.a, u.a from t join u on true"} {
		if _, err := check.Stmt(some(), stmt(s)); err != api.OK {
			t.Errorf("%s: Stmt = %d", s, err)
		}
	}
}

// Each error of a select, and which goes ahead: On, Where, Group, Items, what strays, Order.
func TestP72SelectErrors(t *testing.T) {
	refusesTexts(t, map[string]api.Errno{
		"select 1 from t join u on 1":                                     api.ErrType,
		"select 1 from t join u on 'x'":                                   api.ErrType,
		"select 1 from t join u on t.a":                                   api.ErrType,
		"select 1 from t join u on u.a":                                   api.ErrType,
		"select 1 from t join u on t.a = u.a":                             api.ErrType,
		"select 1 from t join u on a":                                     api.ErrColumn,
		"select 1 from t join u on nowhere":                               api.ErrColumn,
		"select 1 from t join u on x.a = 1":                               api.ErrTable,
		"select 1 from t join u on count(*) = 1":                          api.ErrArg,
		"select 1 from t join u on max(b)":                                api.ErrArg,
		"select 1 from t where 1":                                         api.ErrType,
		"select 1 from t where c":                                         api.ErrType,
		"select 1 from t where -a":                                        api.ErrType,
		"select 1 from t where nowhere":                                   api.ErrColumn,
		"select 1 from t where u.e":                                       api.ErrTable,
		"select 1 from t where e":                                         api.ErrColumn,
		"select 1 from t where max(b)":                                    api.ErrArg,
		"select count(*) from t where count(*) > 1":                       api.ErrArg,
		"select count(*) from t where count(*)":                           api.ErrArg,
		"select 1 from t join u on true where a = 1":                      api.ErrColumn,
		"select 1 from t group by nowhere":                                api.ErrColumn,
		"select 1 from t group by x.a":                                    api.ErrTable,
		"select 1 from t group by x.nowhere":                              api.ErrTable,
		"select 1 from t group by t.d":                                    api.ErrColumn,
		"select 1 from t join u on true group by a":                       api.ErrColumn,
		"select nowhere from t":                                           api.ErrColumn,
		"select x.a from t":                                               api.ErrTable,
		"select a from t join u on true":                                  api.ErrColumn,
		"select a, b, a + b from t":                                       api.ErrType,
		"select sum(c) from t":                                            api.ErrType,
		"select sum(max(a)) from t":                                       api.ErrArg,
		"select count(count(*)) from t":                                   api.ErrArg,
		"select a from t order by 2":                                      api.ErrRange,
		"select a from t order by 1, 1, 2 desc, 1":                        api.ErrRange,
		"select a, b, c from t order by 1, 2, 3, 4":                       api.ErrRange,
		"select a, b, c from t order by 16":                               api.ErrRange,
		"select nowhere from t join u on 1 where x.a order by 2":          api.ErrType,
		"select x.a from t join u on nowhere where 1 group by x.b":        api.ErrColumn,
		"select 1 from t join u on count(*) where 1 group by x.b":         api.ErrArg,
		"select nowhere from t where 1 group by x.a order by 2":           api.ErrType,
		"select x.a from t where nowhere group by x.a order by 2":         api.ErrColumn,
		"select nowhere from t group by x.a order by 2":                   api.ErrTable,
		"select x.a from t group by nowhere order by 2":                   api.ErrColumn,
		"select a + c, nowhere from t group by b order by 3":              api.ErrType,
		"select nowhere, a + c from t group by b order by 3":              api.ErrColumn,
		"select x.a, nowhere, a + c from t order by 4":                    api.ErrTable,
		"select b, a from t group by b order by 3":                        api.ErrArg,
		"select b, b from t group by b order by 3":                        api.ErrRange,
		"select max(b) from t join u on true where max(b) group by x.a":   api.ErrArg,
		"select 1 from t join u on true where null group by a order by 2": api.ErrColumn,
	})
	for n := 1; n <= 16; n++ { // an order is at most as high as there are items
		for order := 1; order <= 16; order++ {
			x := with("select 1 from t", func(x *api.Stmt) {
				x.Items = slices.Repeat(x.Items, n)
				x.Order = []api.Order{{N: 1}, {N: order, Desc: order%2 == 0}}
			})
			if order > n {
				refusesStmt(t, "an order", some(), x, api.ErrRange)
			} else {
				answers(t, "an order", x, 2, -1, -1, slices.Repeat([]int{1}, n), func(x *api.Stmt) {})
			}
		}
	}
}
