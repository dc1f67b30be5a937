package model_test

import (
	"fmt"
	"strings"
	"testing"

	"switchback/api"
	"switchback/model"
)

func TestP111Insert(t *testing.T) {
	l := rowsOf(some(), "t")
	first, last, between := row{num(1), num(0), no, text("")}, row{num(2), num(6), null, text("it's")}, row{null, num(3), null, null}
	leaves(t, some(), "insert into t values (1, 0, false, '')", 1, first, l[0], l[1], l[2], l[3], l[4])
	leaves(t, some(), "insert into t values (2, 6, null, 'it''s')", 1, l[0], l[1], l[2], l[3], l[4], last)
	leaves(t, with(some(), "t", l[0], l[4]), "insert into t values (null, 3, null, null)", 1, l[0], between, l[4])
	leaves(t, with(some(), "t"), "insert into t values (null, 3, null, null)", 1, between)
	leaves(t, with(some(), "t", l[0], l[4]), "insert into t values (2, 6, null, 'it''s'), (null, 3, null, null), (1, 0, false, '')", 3, first, l[0], between, l[4], last)
	// As many rows as a statement may have, in no order.
	var texts []string
	want := make([]row, 16)
	for i := range 16 {
		key := i * 7 % 16
		texts = append(texts, fmt.Sprintf("(%d, %d)", key, i))
		want[key] = row{num(key), num(i)}
	}
	s := upTo(0, nil)
	tells(t, s, "insert into one values "+strings.Join(texts, ", "), 16, with(s, "one", want...))
	// Each table is its own.
	for i := range 8 {
		s, name := full(2), fmt.Sprint("t", i)
		r := row{num(-5), null, text("-"), num(-5), no, text("-"), null, yes}
		tells(t, s, "insert into "+name+" values (-5, null, '-', -5, false, '-', null, true)", 1, with(s, name, beside(s, name, r)...))
	}
}

// beside are a table's rows with one more, ahead of the others.
func beside(s model.State, name string, r row) []row {
	return append([]row{r}, rowsOf(s, name)...)
}

func TestP111InsertReckons(t *testing.T) {
	s := upTo(0, nil)
	for e, v := range map[string]api.Value{
		"null": null, "7": num(7), "-7 / 2": num(-3), "1 + 2 * 3": num(7), "-(-1)": num(1), "null + 1": null, "1 - null": null,
		"9223372036854775806 + 1": num(greatest), "-9223372036854775807 - 1": num(least),
	} {
		tells(t, s, "insert into one values (1, "+e+")", 1, with(s, "one", row{num(1), v}))
	}
	for e, v := range map[string]api.Value{
		"true": yes, "not true": no, "null": null, "not null": null, "1 < 2": yes, "'a' = 'b'": no, "null = 1": null, "null is null": yes, "null is not null": no,
		"false and 1 / 0 = 1": no, "true or 1 / 0 = 1": yes, "null and false": no, "null or true": yes, "null and true": null,
	} {
		left := row{num(1), num(2), v, null}
		leaves(t, with(some(), "t"), "insert into t values (1, 2, "+e+", null)", 1, left)
		leaves(t, with(some(), "t"), "insert into t values (1, 1 + 1, "+e+", null)", 1, left)
	}
}

func TestP111InsertErrors(t *testing.T) {
	for x, err := range map[string]api.Errno{
		// check.Stmt's.
		"insert into nowhere values (1)":                        api.ErrTable,
		"insert into t values (1, 9, true)":                     api.ErrCount,
		"insert into t values (1, 9, true, 'x', 1)":             api.ErrCount,
		"insert into t values (1, 9, true, 'x'), (1, 10, true)": api.ErrCount,
		"insert into t values (n, 9, true, 'x')":                api.ErrColumn,
		"insert into t values (t.n, 9, true, 'x')":              api.ErrColumn,
		"insert into t values ('1', 9, true, 'x')":              api.ErrType,
		"insert into t values (1, true, true, 'x')":             api.ErrType,
		"insert into t values (1, 9, 1, 'x')":                   api.ErrType,
		"insert into t values (1, 9, true, 1)":                  api.ErrType,
		"insert into t values (1 + true, 9, true, 'x')":         api.ErrType,
		"insert into t values (count(*), 9, true, 'x')":         api.ErrArg,
		// eval's.
		"insert into t values (1 / 0, 9, true, 'x')":                                          api.ErrZero,
		"insert into t values (1, 9, 1 / 0 = 1, 'x')":                                         api.ErrZero,
		"insert into t values (9223372036854775807 + 1, 9, true, 'x')":                        api.ErrOver,
		"insert into t values (1, -(-9223372036854775807 - 1), true, 'x')":                    api.ErrOver,
		"insert into t values (1, 9, true, 'x'), (1, 10, true, 'x'), (1 / 0, 11, true, 'x')":  api.ErrZero,
		"insert into t values (1 / 0, 9223372036854775807 + 1, true, 'x')":                    api.ErrZero,
		"insert into t values (9223372036854775807 + 1, 1 / 0, true, 'x')":                    api.ErrOver,
		"insert into t values (1, 1 / 0, true, 'x'), (9223372036854775807 * 2, 1, true, 'x')": api.ErrZero,
		"insert into t values (1, 9223372036854775807 * 2, true, 'x'), (1 / 0, 1, true, 'x')": api.ErrOver,
		// rows'.
		"insert into t values (1, null, true, 'x')":                                      api.ErrNull,
		"insert into t values (1, null + 1, true, 'x')":                                  api.ErrNull,
		"insert into u values ('new', null)":                                             api.ErrNull,
		"insert into u values (null, 1)":                                                 api.ErrNull,
		"insert into t values (1, 3, true, 'x')":                                         api.ErrKey,
		"insert into t values (1, 2 + 3, true, 'x')":                                     api.ErrKey,
		"insert into u values ('x', 1)":                                                  api.ErrKey,
		"insert into e values (1), (2), (1)":                                             api.ErrKey,
		"insert into t values (1, 9, true, 'x'), (1, 10, true, 'x'), (1, 9, null, null)": api.ErrKey,
	} {
		refuses(t, some(), x, err)
	}
}

// Which goes ahead where more than one fits: check.Stmt's of a later row ahead of eval's, eval's of a later row ahead of rows', rows' row by row.
func TestP111InsertErrorsInTheirOrder(t *testing.T) {
	const over = "9223372036854775807 + 1"
	for _, x := range []struct {
		rows string
		err  api.Errno
	}{
		{"(1 / 0, null, true, 'x'), (1, 9, true)", api.ErrCount},
		{"(1 / 0, null, true, 'x'), (1, 9, 'x', true)", api.ErrType},
		{"(1 / 0, null, true, 'x'), (1, a, true, 'x')", api.ErrColumn},
		{"(1, 1, true, 'x'), (1, 9, true, 'x', 'x')", api.ErrCount},
		{"(1, null, true, 'x'), (1 / 0, 9, true, 'x')", api.ErrZero},
		{"(1, 1, true, 'x'), (" + over + ", 9, true, 'x')", api.ErrOver},
		{"(1, 1, true, 'x'), (1, null, true, 'x'), (1, 9, 1 / 0 = 0, 'x')", api.ErrZero},
		{"(1 / 0, null, true, 'x')", api.ErrZero},
		{"(1, null, true, 'x'), (1, 1, true, 'x')", api.ErrNull},
		{"(1, 1, true, 'x'), (1, null, true, 'x')", api.ErrKey},
		{"(1, 9, true, 'x'), (1, 9, true, 'x'), (1, null, true, 'x')", api.ErrKey},
		{"(1, 9, true, 'x'), (1, null, true, 'x'), (1, 9, true, 'x')", api.ErrNull},
	} {
		refuses(t, some(), "insert into t values "+x.rows, x.err)
	}
	refuses(t, some(), "insert into nowhere values (1 / 0), (1, 2)", api.ErrTable)
}

func TestP111InsertIntoFullTables(t *testing.T) {
	null := func(int) api.Value { return null }
	for n, most := range map[int]int{256: 0, 255: 1, 250: 6, 241: 15, 240: 16} {
		s := upTo(n, null)
		for more := 1; more <= 16; more++ {
			var texts []string
			l := rowsOf(s, "one")
			for i := range more {
				texts = append(texts, fmt.Sprintf("(%d, 1)", n+i))
				l = append(l[:n+i:n+i], row{num(n + i), num(1)})
			}
			x := "insert into one values " + strings.Join(texts, ", ")
			if more <= most {
				tells(t, s, x, more, with(s, "one", l...))
			} else {
				refuses(t, s, x, api.ErrFull)
			}
		}
	}
	s := upTo(255, null)
	for x, err := range map[string]api.Errno{
		"(300, 1), (301, 1)":        api.ErrFull,
		"(300, 1), (300, 1)":        api.ErrKey,
		"(300, 1), (null, 1)":       api.ErrNull,
		"(300, 1), (301, 1 / 0)":    api.ErrZero,
		"(300, 1), (301, 1), (7)":   api.ErrCount,
		"(300, 1), (301, 1), (7,1)": api.ErrFull,
		"(7, 1), (301, 1)":          api.ErrKey,
	} {
		refuses(t, s, "insert into one values "+x, err)
	}
}
