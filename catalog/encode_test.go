package catalog_test

import (
	"fmt"
	"slices"
	"strings"
	"testing"

	"switchback/api"
	"switchback/catalog"
)

func number(n int) api.Value { return api.Value{Kind: 1, N: n} }

func text(s string) api.Value { return api.Value{Kind: 3, Text: s} }

func truth(is bool) api.Value {
	if is {
		return api.Value{Kind: 2, N: 1}
	}
	return api.Value{Kind: 2}
}

// written is what P6.2 says of any table.
func written(t catalog.Table) []api.Value {
	l := []api.Value{text(t.Name), number(t.Key), number(len(t.Columns))}
	for _, c := range t.Columns {
		l = append(l, text(c.Name), number(c.Kind), truth(c.NotNull))
	}
	l = append(l, number(len(t.Indexes)))
	for _, x := range t.Indexes {
		l = append(l, text(x.Name), number(x.Column))
	}
	return l
}

func refusesDecode(t *testing.T, what string, l []api.Value) {
	t.Helper()
	if x, e := catalog.Decode(l); !isZero(x) || e != api.ErrState {
		t.Errorf("%s: Decode = %v, %d", what, x, e)
	}
}

// some are tables that may be, of all sizes.
func some() []catalog.Table {
	var l []catalog.Table
	for n := 1; n <= 8; n++ {
		for m := range 5 {
			l = append(l, indexed(table("t", n), m))
		}
	}
	return append(l, changed(indexed(table(strings.Repeat("a", 16), 8), 4), func(t *catalog.Table) {
		for i := range t.Columns {
			t.Columns[i].Name = strings.Repeat("b", i+9)
		}
		for i := range t.Indexes {
			t.Indexes[i].Name = strings.Repeat("c", i+13)
		}
	}))
}

func TestP62Encode(t *testing.T) {
	x := catalog.Table{Name: "t", Columns: []api.Column{{Name: "a", Kind: 3}, {Name: "b", Kind: 1, NotNull: true}}, Key: 1, Indexes: []catalog.Index{{Name: "i"}, {Name: "j", Column: 1}}}
	want := []api.Value{
		text("t"), number(1),
		number(2), text("a"), number(3), truth(false), text("b"), number(1), truth(true),
		number(2), text("i"), number(0), text("j"), number(1),
	}
	if l, e := catalog.Encode(x); !slices.Equal(l, want) || e != api.OK {
		t.Errorf("Encode = %v, %d", l, e)
	}
	for _, x := range some() {
		if l, e := catalog.Encode(x); !slices.Equal(l, written(x)) || len(l) != 4+3*len(x.Columns)+2*len(x.Indexes) || e != api.OK {
			t.Errorf("Encode(%v) = %v, %d", x, l, e)
		}
	}
}

func TestP64DecodeOfEncode(t *testing.T) {
	for _, x := range some() {
		l, _ := catalog.Encode(x)
		if y, e := catalog.Decode(l); !sameTable(x, y) || e != api.OK {
			t.Errorf("Decode of Encode(%v) = %v, %d", x, y, e)
		}
	}
	next := rolled(3)
	for range 3000 {
		x := table("t", 1+next(8))
		for i := range x.Columns {
			x.Columns[i].Kind, x.Columns[i].NotNull = 1+next(3), next(2) == 0
		}
		x.Key = next(len(x.Columns))
		x.Columns[x.Key].NotNull = true
		for i := range next(5) {
			x.Indexes = append(x.Indexes, catalog.Index{Name: fmt.Sprint("i", (i*7)%5), Column: next(len(x.Columns))})
		}
		l, e := catalog.Encode(x)
		y, f := catalog.Decode(l)
		if !slices.Equal(l, written(x)) || !sameTable(x, y) || e != api.OK || f != api.OK {
			t.Fatalf("Decode of Encode(%v) = %v, %d, %d", x, y, e, f)
		}
	}
}

func TestP62ListsTooShortAndTooLong(t *testing.T) {
	refusesDecode(t, "nothing", nil)
	refusesDecode(t, "an empty list", []api.Value{})
	for _, x := range some() {
		l := written(x)
		for n := range len(l) {
			refusesDecode(t, fmt.Sprint("the first ", n), l[:n])
			refusesDecode(t, fmt.Sprint("all but the first ", n+1), l[n+1:])
			refusesDecode(t, fmt.Sprint("without ", n), slices.Delete(slices.Clone(l), n, n+1))
		}
		for _, more := range []api.Value{{}, number(0), number(1), text(""), text("a"), truth(false), {Kind: 9}} {
			refusesDecode(t, "one more", append(slices.Clone(l), more))
			for n := range len(l) + 1 {
				refusesDecode(t, fmt.Sprint("one more at ", n), slices.Insert(slices.Clone(l), n, more))
			}
		}
		refusesDecode(t, "twice", append(slices.Clone(l), l...))
		refusesDecode(t, "an index more than is said", append(slices.Clone(l), text("z"), number(0)))
		refusesDecode(t, "no end", append(slices.Clone(l), make([]api.Value, 70000)...))
	}
	refusesDecode(t, "nothing but NULLs", make([]api.Value, 70000))
}

func TestP62NumbersOfAnySize(t *testing.T) {
	sizes := []int{least, least + 1, -1 << 32, -70000, -9, -2, -1, 0, 1, 2, 3, 4, 5, 7, 8, 9, 10, 100, 70000, 1 << 31, 1 << 32, 1<<32 + 1, 1<<32 + 4, greatest - 1, greatest}
	for _, x := range some() {
		l := written(x)
		columns, indexes := 2, 3+3*len(x.Columns)
		for _, n := range sizes {
			if n != len(x.Columns) {
				refusesDecode(t, fmt.Sprint("columns: ", n), replaced(l, columns, number(n)))
			}
			if n != len(x.Indexes) {
				refusesDecode(t, fmt.Sprint("indexes: ", n), replaced(l, indexes, number(n)))
			}
			refusesDecode(t, "both", replaced(replaced(l, columns, number(n)), indexes, number(greatest-len(x.Indexes))))
		}
	}
	// Nine columns, or five indexes, as they would be written.
	refusesDecode(t, "nine columns", written(table("t", 9)))
	refusesDecode(t, "no columns", []api.Value{text("t"), number(0), number(0), number(0)})
	refusesDecode(t, "five indexes", written(indexed(table("t", 8), 5)))
}

func replaced(l []api.Value, at int, v api.Value) []api.Value {
	l = slices.Clone(l)
	l[at] = v
	return l
}

// At each place any other value is either what Encode makes of another table, or refused.
func TestP62OtherValuesAtEachPlace(t *testing.T) {
	values := []api.Value{
		{}, {N: 1}, {Text: "a"}, {Kind: -1}, {Kind: 4}, {Kind: 4, N: 1, Text: "a"}, {Kind: least}, {Kind: greatest, N: 1},
		{Kind: 1, Text: "a"}, {Kind: 1, N: 1, Text: "b"}, {Kind: 2, N: 2}, {Kind: 2, N: -1}, {Kind: 2, N: 1, Text: "a"}, {Kind: 2, N: 1 << 32}, {Kind: 3, N: 1, Text: "a"},
		truth(false), truth(true), text(""), text("a"), text("t"), text("c0"), text("c1"), text("t_0"), text("A"), text("key"), text("1"), text(strings.Repeat("x", 65)), text(strings.Repeat("x", 17)),
	}
	for n := -2; n <= 10; n++ {
		values = append(values, number(n))
	}
	told := map[api.Errno]int{}
	for _, x := range some() {
		l := written(x)
		for at := range l {
			for _, v := range values {
				m := replaced(l, at, v)
				y, e := catalog.Decode(m)
				told[e]++
				n, f := catalog.Encode(y)
				switch {
				case e == api.OK && (f != api.OK || !slices.Equal(n, m)):
					t.Errorf("Decode(%v) = %v, of which Encode makes %v, %d", m, y, n, f)
				case e != api.OK && (e != api.ErrState || !isZero(y)):
					t.Errorf("Decode(%v) = %v, %d", m, y, e)
				case e != api.OK && byWords(m):
					t.Errorf("Decode(%v) is refused", m)
				case e == api.OK && !byWords(m):
					t.Errorf("Decode(%v) = %v", m, y)
				}
			}
		}
	}
	if told[api.OK] < 500 || told[api.ErrState] < 5000 {
		t.Errorf("told: %v", told)
	}
}

// byWords tells whether a list is a table's that may be: a second reading, for lists of those names alone that are used here.
func byWords(l []api.Value) bool {
	take := func(kind int) (api.Value, bool) {
		if len(l) == 0 || l[0].Kind != kind || kind != 3 && l[0].Text != "" || kind == 3 && l[0].N != 0 || kind == 2 && l[0].N>>1 != 0 {
			return api.Value{}, false
		}
		v := l[0]
		l = l[1:]
		return v, true
	}
	isName := func(s string) bool {
		return s != "" && len(s) <= 16 && s != "A" && s != "key" && s != "1"
	}
	name, is := take(3)
	key, is2 := take(1)
	count, is3 := take(1)
	if !is || !is2 || !is3 || !isName(name.Text) || count.N < 1 || count.N > 8 || key.N < 0 || key.N >= count.N {
		return false
	}
	seen := map[string]bool{}
	for i := range count.N {
		name, is := take(3)
		kind, is2 := take(1)
		fixed, is3 := take(2)
		if !is || !is2 || !is3 || !isName(name.Text) || seen[name.Text] || kind.N < 1 || kind.N > 3 || i == key.N && fixed.N == 0 {
			return false
		}
		seen[name.Text] = true
	}
	indexes, is := take(1)
	if !is || indexes.N < 0 || indexes.N > 4 {
		return false
	}
	seen = map[string]bool{}
	for range indexes.N {
		name, is := take(3)
		at, is2 := take(1)
		if !is || !is2 || !isName(name.Text) || seen[name.Text] || at.N < 0 || at.N >= count.N {
			return false
		}
		seen[name.Text] = true
	}
	return len(l) == 0
}
