package model_test

import (
	"fmt"
	"testing"

	"switchback/api"
	"switchback/catalog"
	"switchback/check"
	"switchback/model"
	"switchback/query"
)

func TestP111Select(t *testing.T) {
	s := some()
	shows(t, s, "select a from t", row{num(1)}, row{num(2)}, row{num(3)}, row{num(4)}, row{num(5)})
	shows(t, s, "select n, c, a, 'x', null from t where a > 2", row{null, text("x"), num(3), text("x"), null}, row{num(40), null, num(4), text("x"), null}, row{num(50), text("z"), num(5), text("x"), null})
	shows(t, s, "select a + n, b and a > 1 from t where b is not null", row{num(11), no}, row{num(22), no}, row{num(44), yes}, row{num(55), no})
	shows(t, s, "select a from t where null")
	shows(t, s, "select a from t where a > 5")
	shows(t, s, "select k from e")
	shows(t, s, "select 1 / 0 from e where 1 / 0 = 1")
	shows(t, s, "select d from u", row{text("x")}, row{text("y")}, row{text("z")})
	shows(t, s, "select t.a from t where t.n = 20", row{num(2)})
	// Orders and limits: N is how many are told.
	shows(t, s, "select a from t order by 1 desc", row{num(5)}, row{num(4)}, row{num(3)}, row{num(2)}, row{num(1)})
	shows(t, s, "select c, a from t order by 1, 2 desc limit 3", row{null, num(4)}, row{text("x"), num(3)}, row{text("x"), num(1)})
	shows(t, s, "select a from t limit 2", row{num(1)}, row{num(2)})
	shows(t, s, "select a from t limit 0")
	shows(t, s, "select a from t where a > 3 limit 9", row{num(4)}, row{num(5)})
	// Groups.
	shows(t, s, "select count(*), count(n), sum(n), min(c), max(b) from t", row{num(5), num(4), num(120), text("x"), yes})
	shows(t, s, "select count(*), sum(k) from e", row{num(0), null})
	shows(t, s, "select b, sum(a) from t group by b", row{null, num(3)}, row{no, num(7)}, row{yes, num(5)})
	shows(t, s, "select c, count(*) from t where a < 5 group by c order by 2 desc, 1 limit 2", row{text("x"), num(2)}, row{null, num(1)})
	shows(t, s, "select k from e group by k")
}

func TestP111SelectOfJoins(t *testing.T) {
	s := some()
	shows(t, s, "select a, d, f from t join u on c = d", row{num(1), text("x"), num(7)}, row{num(2), text("y"), num(8)}, row{num(3), text("x"), num(7)}, row{num(5), text("z"), num(9)})
	shows(t, s, "select a, d, f from u join t on c = d", row{num(1), text("x"), num(7)}, row{num(3), text("x"), num(7)}, row{num(2), text("y"), num(8)}, row{num(5), text("z"), num(9)})
	shows(t, s, "select t.a, u.f from t join u on true where a < 3 and f < 9", row{num(1), num(7)}, row{num(1), num(8)}, row{num(2), num(7)}, row{num(2), num(8)})
	shows(t, s, "select t.a, u.f from u join t on true where a < 3 and f < 9", row{num(1), num(7)}, row{num(2), num(7)}, row{num(1), num(8)}, row{num(2), num(8)})
	shows(t, s, "select a, k from t join e on true")
	shows(t, s, "select k, a from e join t on 1 / 0 = 1")
	shows(t, s, "select count(*), sum(f) from t join u on c = d", row{num(4), num(31)})
	shows(t, s, "select count(*) from e join u on null", row{num(0)})
	shows(t, s, "select d, count(a), max(a) from t join u on d >= c group by d order by 2 desc limit 2", row{text("z"), num(4), num(5)}, row{text("y"), num(3), num(3)})
	shows(t, s, "select a from t join u on false")
	big := joined(64, 64)
	shows(t, big, "select count(*) from a join b on true", row{num(4096)})
	if _, told := model.Text(big, "select x, y from a join b on true"); told.Err != api.OK || told.N != 4096 || len(told.Rows) != 4096 {
		t.Errorf("a join of 4096 rows tells %s", brief(told))
	}
}

func TestP111SelectErrors(t *testing.T) {
	for x, err := range map[string]api.Errno{
		// check.Stmt's.
		"select a from nowhere":                api.ErrTable,
		"select a from t join nowhere on true": api.ErrTable,
		"select a from nowhere join t on true": api.ErrTable,
		"select a from t join t on true":       api.ErrTwice,
		"select d from t":                      api.ErrColumn,
		"select a from t where d = 'x'":        api.ErrColumn,
		"select a from t join u on z = 1":      api.ErrColumn,
		"select a from t group by d":           api.ErrColumn,
		"select u.d from t":                    api.ErrTable,
		"select a + b from t":                  api.ErrType,
		"select a from t where a":              api.ErrType,
		"select a from t join u on 'x'":        api.ErrType,
		"select a, count(*) from t":            api.ErrArg,
		"select a from t group by b":           api.ErrArg,
		"select a from t where count(*) = 1":   api.ErrArg,
		"select a from t order by 2":           api.ErrRange,
		// query.Select's.
		"select 1 / (a - 5) from t":                                api.ErrZero,
		"select a from t where 1 / (a - 5) = 1":                    api.ErrZero,
		"select a from t join u on 1 / (f - 9) = 1":                api.ErrZero,
		"select a * 9223372036854775807 from t":                    api.ErrOver,
		"select sum(a + 4611686018427387903) from t":               api.ErrOver,
		"select b, sum(9223372036854775807 - n) from t group by b": api.ErrOver,
		// Which goes ahead.
		"select 1 / 0 from t order by 2":                                        api.ErrRange,
		"select 1 / 0 from t where a":                                           api.ErrType,
		"select a * 9223372036854775807 from t where 1 / (a-5) = 1":             api.ErrZero,
		"select a from t join u on a * 9223372036854775807 = 1 where 1 / 0 = 1": api.ErrOver,
		"select a from t join u on true where 1 / 0 = 1":                        api.ErrZero,
		"select 1 / 0 from t limit 0":                                           api.ErrZero,
	} {
		refuses(t, some(), x, err)
	}
	for _, n := range [][2]int{{65, 64}, {64, 65}, {17, 256}, {256, 17}, {256, 256}} {
		s := joined(n[0], n[1])
		refuses(t, s, "select count(*) from a join b on true", api.ErrFull)
		refuses(t, s, "select count(*) from b join a on x >= 0", api.ErrFull)
		shows(t, s, "select count(*) from a join b on x = 0", row{num(n[1])})
	}
	refuses(t, joined(65, 64), "select x from a join b on x < 64 or 1 / 0 = 1", api.ErrZero)
	refuses(t, joined(66, 64), "select x from a join b on x < 65 or 1 / 0 = 1", api.ErrFull)
}

// All that query.Select tells of what check.Stmt makes, model tells.
func TestP111SelectIsQuerys(t *testing.T) {
	tables := func(name string) []string {
		return []string{name, name + " join e on true", name + " join t on true", name + " join u on true", name + " join u on 1 / (f - 8) = 0"}
	}
	done := map[api.Errno]int{}
	for _, name := range []string{"e", "t", "u"} {
		for _, from := range tables(name) {
			for _, items := range []string{"1", "null, 'x'", "a", "f, d", "k", "count(*)", "sum(f)", "c, count(*)", "a / (a - 3)"} {
				for _, rest := range []string{"", " where null", " where a > 2", " where d <> 'y'", " group by c", " order by 1 desc", " order by 2 limit 3", " limit 1"} {
					x := "select " + items + " from " + from + rest
					want := selected(some(), stmt(x))
					follows(t, some(), x, want, some())
					done[want.Err]++
				}
			}
		}
	}
	for _, err := range []api.Errno{api.OK, api.ErrTwice, api.ErrColumn, api.ErrArg, api.ErrRange, api.ErrZero} {
		if done[err] < 5 {
			t.Errorf("only %d selects told %d", done[err], err)
		}
	}
}

// selected is what query.Select tells.
func selected(s model.State, x api.Stmt) api.Result {
	typed, err := check.Stmt(s.Catalog, x)
	if err != api.OK {
		return api.Result{Err: err}
	}
	at, err := catalog.Find(s.Catalog, x.Table)
	if err != api.OK {
		panic(fmt.Sprint(x, err))
	}
	var more []row
	if x.Join != "" {
		more = rowsOf(s, x.Join)
	}
	l, err := query.Select(typed, s.Rows[at], more)
	return api.Result{Err: err, N: len(l), Rows: l}
}
