package model_test

import (
	"fmt"
	"slices"
	"testing"

	"switchback/api"
)

// put is a row with another value at a place.
func put(r row, at int, v api.Value) row {
	r = slices.Clone(r)
	r[at] = v
	return r
}

func TestP111Update(t *testing.T) {
	l := rowsOf(some(), "t")
	for where, places := range map[string][]int{
		"":                          {0, 1, 2, 3, 4},
		" where true":               {0, 1, 2, 3, 4},
		" where false":              {},
		" where null":               {},
		" where a = 3":              {2},
		" where a = 6":              {},
		" where a > 1 and a < 5":    {1, 2, 3},
		" where b":                  {0, 3},
		" where not b":              {1, 4},
		" where b is null":          {2},
		" where n < 30":             {0, 1},
		" where n is not null":      {0, 1, 3, 4},
		" where c = 'x'":            {0, 2},
		" where c <> 'x'":           {1, 4},
		" where null or a = 1":      {0},
		" where t.a = 1 or t.a = 5": {0, 4},
		" where a <> 3 and 1 / (a - 3) = 1 or a = 3": {2, 3},
	} {
		want := slices.Clone(l)
		for _, i := range places {
			want[i] = put(l[i], 3, text("new"))
		}
		leaves(t, some(), "update t set c = 'new'"+where, len(places), want...)
		for _, i := range places {
			want[i] = put(put(l[i], 0, null), 2, yes)
		}
		leaves(t, some(), "update t set b = true, n = null"+where, len(places), want...)
	}
	leaves(t, with(some(), "t"), "update t set c = 'new'", 0)
	// What is set to what it was is counted.
	leaves(t, some(), "update t set n = n, a = a, b = b, c = c", 5, l...)
	for i := range 8 {
		s, name := full(4), fmt.Sprint("t", i)
		var want []row
		for _, r := range rowsOf(s, name) {
			want = append(want, put(r, 6, r[0]))
		}
		tells(t, s, "update "+name+" set c6 = c0", 4, with(s, name, want...))
	}
}

// All values are reckoned over the row as it was.
func TestP111UpdateReckonsOverTheOldRow(t *testing.T) {
	s := with(some(), "t", row{num(10), num(1), yes, text("x")}, row{num(20), num(2), no, text("y")})
	leaves(t, s, "update t set n = a, a = n", 2, row{num(1), num(10), yes, text("x")}, row{num(2), num(20), no, text("y")})
	leaves(t, s, "update t set a = n, n = a", 2, row{num(1), num(10), yes, text("x")}, row{num(2), num(20), no, text("y")})
	leaves(t, s, "update t set a = a + 100, n = a + 1, b = a = 1", 2, row{num(2), num(101), yes, text("x")}, row{num(3), num(102), no, text("y")})
	leaves(t, s, "update t set b = not b, n = n * n / a, c = null where b", 1, row{num(100), num(1), no, null}, row{num(20), num(2), no, text("y")})
	leaves(t, s, "update t set n = n + null, b = n > 15 and b is not null", 2, row{null, num(1), no, text("x")}, row{null, num(2), yes, text("y")})
	leaves(t, s, "update t set b = b or 1 / (a - 1) = 1", 2, row{num(10), num(1), yes, text("x")}, row{num(20), num(2), yes, text("y")})
}

// All rows that are changed go first: keys may be moved onto one another.
func TestP111UpdateMovesKeys(t *testing.T) {
	s := upTo(5, num)
	for _, x := range []struct {
		text string
		n    int
		keys []int // of the five rows
	}{
		{"set a = a + 1", 5, []int{1, 2, 3, 4, 5}},
		{"set a = a - 1", 5, []int{-1, 0, 1, 2, 3}},
		{"set a = 4 - a", 5, []int{4, 3, 2, 1, 0}},
		{"set a = b", 5, []int{0, 1, 2, 3, 4}},
		{"set a = 1 - a where a < 2", 2, []int{1, 0, 2, 3, 4}},
		{"set a = 3 where a = 3", 1, []int{0, 1, 2, 3, 4}},
		{"set a = a * 10 where a <> 2", 4, []int{0, 10, 2, 30, 40}},
		{"set a = a - 9 where a = 4", 1, []int{0, 1, 2, 3, -5}},
		{"set a = 7 where a = 0", 1, []int{7, 1, 2, 3, 4}},
		{"set a = 7 where a = 7", 0, []int{0, 1, 2, 3, 4}},
	} {
		var want []row
		for i, key := range x.keys {
			want = append(want, row{num(key), num(i)})
		}
		slices.SortFunc(want, func(a, b row) int { return a[0].N - b[0].N })
		tells(t, s, "update one "+x.text, x.n, with(s, "one", want...))
	}
	most := upTo(256, num)
	var want []row
	for i := range 256 {
		want = append(want, row{num(i + 1), num(i)})
	}
	tells(t, most, "update one set a = a + 1", 256, with(most, "one", want...))
	texts := with(some(), "u", row{text("y"), num(7)}, row{text("z"), num(8)})
	tells(t, texts, "update u set d = 'a' where d = 'z'", 1, with(texts, "u", row{text("a"), num(8)}, row{text("y"), num(7)}))
}

func TestP111UpdateErrors(t *testing.T) {
	for x, err := range map[string]api.Errno{
		// check.Stmt's.
		"update nowhere set a = 1":         api.ErrTable,
		"update t set d = 1":               api.ErrColumn,
		"update t set n = d":               api.ErrColumn,
		"update t set n = u.f":             api.ErrTable,
		"update t set n = 1, n = 2":        api.ErrTwice,
		"update t set n = 1, b = a, n = 2": api.ErrType,
		"update t set n = 'x'":             api.ErrType,
		"update t set b = a":               api.ErrType,
		"update t set n = count(*)":        api.ErrArg,
		"update t set n = 1 where a":       api.ErrType,
		"update t set n = 1 where d":       api.ErrColumn,
		"update t set n = 1 where max(b)":  api.ErrArg,
		// query.Filter's.
		"update t set n = 1 where 1 / (a - 5) = 1":                       api.ErrZero,
		"update t set n = 1 where a + 9223372036854775803 > 0":           api.ErrOver,
		"update t set n = 1 where 9223372036854775806 + a > 1 / (a - 1)": api.ErrZero,
		// eval's.
		"update t set n = 1 / (a - 5)":                     api.ErrZero,
		"update t set n = 1, c = 'x', b = 1 / (a - 5) = 1": api.ErrZero,
		"update t set n = a * 9223372036854775807":         api.ErrOver,
		"update t set n = -(-9223372036854775803 - a)":     api.ErrOver,
		// rows'.
		"update t set a = null":                     api.ErrNull,
		"update t set a = n":                        api.ErrNull,
		"update t set a = null where a = 5":         api.ErrNull,
		"update u set f = null where d = 'y'":       api.ErrNull,
		"update t set a = 1":                        api.ErrKey,
		"update t set a = 7":                        api.ErrKey,
		"update t set a = 1 where a = 5":            api.ErrKey,
		"update t set a = a + 1 where a < 5":        api.ErrKey,
		"update t set a = a / 2 where a = 4 or a=5": api.ErrKey,
		"update u set d = 'x' where d > 'x'":        api.ErrKey,
	} {
		refuses(t, some(), x, err)
	}
}

// What would be wrong with rows that are not changed is not told.
func TestP111UpdateOfOthers(t *testing.T) {
	l := rowsOf(some(), "t")
	leaves(t, some(), "update t set n = 1 / (a - 5) where a < 4", 3, put(l[0], 0, num(0)), put(l[1], 0, num(0)), put(l[2], 0, num(0)), l[3], l[4])
	leaves(t, some(), "update t set n = 1 / 0, a = null where a > 5", 0, l...)
	leaves(t, with(some(), "t"), "update t set n = 1 / 0, a = null where 1 / 0 = 1", 0)
	leaves(t, some(), "update t set a = n where n is not null and a <> 3", 4, l[2], put(l[0], 1, num(10)), put(l[1], 1, num(20)), put(l[3], 1, num(40)), put(l[4], 1, num(50)))
}

// Which goes ahead where more than one fits: check.Stmt's, the condition's of a later row, the values' row by row and Set by Set, the rows'.
func TestP111UpdateErrorsInTheirOrder(t *testing.T) {
	const zero, over = "1 / 0", "9223372036854775807 + 1"
	for _, x := range []struct {
		text string
		err  api.Errno
	}{
		{"update nowhere set a = 1, a = 'x' where 7", api.ErrTable},
		{"update t set n = " + zero + ", d = 1", api.ErrColumn},
		{"update t set n = " + zero + ", n = 1", api.ErrTwice},
		{"update t set n = " + zero + ", b = 1", api.ErrType},
		{"update t set a = 1 where " + zero, api.ErrType},
		{"update t set a = " + zero + " where " + over + " = 1", api.ErrOver},
		{"update t set a = " + over + " where " + zero + " = 1", api.ErrZero},
		{"update t set a = " + over + " where 1 / (a - 5) = 1 or true", api.ErrZero},
		{"update t set a = null where 1 / (a - 5) = 1 or true", api.ErrZero},
		{"update t set n = " + zero + ", a = " + over, api.ErrZero},
		{"update t set a = " + over + ", n = " + zero, api.ErrOver},
		{"update t set b = " + zero + " = 1, n = " + over, api.ErrZero},
		{"update t set b = " + over + " = 1, n = " + zero, api.ErrOver},
		{"update t set n = 9223372036854775807 - 1 + a, b = 1 / (a - 1) = 1", api.ErrZero},
		{"update t set n = 9223372036854775807 - 1 + a, b = 1 / (a - 2) = 1", api.ErrOver},
		{"update t set n = 1 / (a - 2), b = 9223372036854775807 + a = 1", api.ErrOver},
		{"update t set n = 1 / (a - 1), b = 9223372036854775807 + a = 1", api.ErrZero},
		{"update t set a = null, n = 1 / (a - 5)", api.ErrZero},
		{"update t set a = 1, n = 1 / (a - 5)", api.ErrZero},
		{"update t set a = n * 0 + 1 where a > 1", api.ErrKey},
		{"update t set a = n * 0 + 1 where a > 2", api.ErrNull},
		{"update t set a = n * 0 + 2 where a <> 2", api.ErrKey},
		{"update t set a = n * 0 + 7", api.ErrKey},
		{"update t set a = n * 0 + a where a = 2 or a = 3", api.ErrNull},
	} {
		refuses(t, some(), x.text, x.err)
	}
}
