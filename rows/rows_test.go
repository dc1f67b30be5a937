package rows_test

import (
	"fmt"
	"math"
	"slices"
	"strings"
	"testing"

	"switchback/api"
	"switchback/catalog"
	"switchback/rows"
)

const (
	least    = math.MinInt64
	greatest = math.MaxInt64
)

var (
	null = api.Value{}
	no   = api.Value{Kind: 2}
	yes  = api.Value{Kind: 2, N: 1}
)

func num(n int) api.Value { return api.Value{Kind: 1, N: n} }

func text(s string) api.Value { return api.Value{Kind: 3, Text: s} }

func is(b bool) api.Value {
	if b {
		return yes
	}
	return no
}

type row = []api.Value

// wrong are values that may not be.
func wrong() []api.Value {
	return []api.Value{
		{Kind: -1}, {Kind: 4}, {Kind: least, N: 1}, {Kind: greatest, Text: "a"},
		{N: 1}, {N: least}, {Text: "a"},
		{Kind: 1, Text: "a"}, {Kind: 1, N: 5, Text: "5"},
		{Kind: 2, N: 2}, {Kind: 2, N: -1}, {Kind: 2, N: greatest}, {Kind: 2, N: 1, Text: "true"},
		{Kind: 3, N: 1}, {Kind: 3, N: -1, Text: "a"}, text(strings.Repeat("a", 65)),
	}
}

// risingKeys are values of a kind, each above the one ahead of it.
func risingKeys(kind int) []api.Value {
	return [...][]api.Value{
		1: {num(least), num(-258), num(-1), num(0), num(1), num(2), num(10), num(greatest)},
		2: {no, yes},
		3: {text(""), text("\x00"), text("10"), text("9"), text("B"), text("a"), text("a\x00"), text(strings.Repeat("\xff", 64))},
	}[kind]
}

// nth are many values of a kind, rising (two of the truths).
func nth(kind int, n int) api.Value {
	switch kind {
	case 1:
		return num(n - 300)
	case 2:
		return api.Value{Kind: 2, N: n}
	}
	return text(fmt.Sprintf("%04d", n))
}

// shape is a table of so many columns, whose key is of that kind, at that place. Of the others every second one may be NULL.
func shape(columns, key, kind int) catalog.Table {
	t := catalog.Table{Name: "t", Key: key, Indexes: []catalog.Index{{Name: "i", Column: columns - 1}, {Name: "j"}}}
	for i := range columns {
		t.Columns = append(t.Columns, api.Column{Name: fmt.Sprint("c", i), Kind: i%3 + 1, NotNull: i%2 == 1})
	}
	t.Columns[key].Kind, t.Columns[key].NotNull = kind, true
	return t
}

// shapes are tables of each width, with keys of each kind at each place.
func shapes() []catalog.Table {
	var l []catalog.Table
	for columns := 1; columns <= 8; columns++ {
		for key := range columns {
			for kind := 1; kind <= 3; kind++ {
				l = append(l, shape(columns, key, kind))
			}
		}
	}
	return l
}

// fitting is a row of t: tags that are unlike make rows that are, if there is a column beside the key.
func fitting(t catalog.Table, key api.Value, tag int) row {
	var l row
	for i, c := range t.Columns {
		switch {
		case i == t.Key:
			l = append(l, key)
		case !c.NotNull && (i+tag)%4 == 3:
			l = append(l, null)
		default:
			l = append(l, [...]api.Value{1: num(tag), 2: is(tag%2 == 1), 3: text(fmt.Sprint("x", tag))}[c.Kind])
		}
	}
	return l
}

// many are rows of the keys from to-th, below the to-th.
func many(t catalog.Table, from, to int) []row {
	var l []row
	for n := from; n < to; n++ {
		l = append(l, fitting(t, nth(t.Columns[t.Key].Kind, n), n))
	}
	return l
}

// with is a row with another value at a place.
func with(l row, at int, v api.Value) row {
	l = slices.Clone(l)
	l[at] = v
	return l
}

func withColumns(t catalog.Table, change func(l []api.Column) []api.Column) catalog.Table {
	t.Columns = change(slices.Clone(t.Columns))
	return t
}

func withIndexes(t catalog.Table, l ...catalog.Index) catalog.Table {
	t.Indexes = l
	return t
}

// wrongTables are tables that may not be, which have the columns of shape(3, 1, 1) as far as they can.
func wrongTables() map[string]catalog.Table {
	t := shape(3, 1, 1)
	l := map[string]catalog.Table{
		"nothing":            {},
		"no column":          withIndexes(withColumns(t, func(l []api.Column) []api.Column { return nil })),
		"a column twice":     withColumns(t, func(l []api.Column) []api.Column { l[2].Name = "c0"; return l }),
		"a column's name":    withColumns(t, func(l []api.Column) []api.Column { l[0].Name = "A"; return l }),
		"a column of no":     withColumns(t, func(l []api.Column) []api.Column { l[0].Kind = 0; return l }),
		"a column of 4":      withColumns(t, func(l []api.Column) []api.Column { l[2].Kind = 4; return l }),
		"a key may be NULL":  withColumns(t, func(l []api.Column) []api.Column { l[1].NotNull = false; return l }),
		"five indexes":       withIndexes(t, catalog.Index{Name: "i"}, catalog.Index{Name: "j"}, catalog.Index{Name: "k"}, catalog.Index{Name: "l"}, catalog.Index{Name: "m"}),
		"an index twice":     withIndexes(t, catalog.Index{Name: "i"}, catalog.Index{Name: "i", Column: 1}),
		"an index's name":    withIndexes(t, catalog.Index{Name: "index"}),
		"an index of none":   withIndexes(t, catalog.Index{Name: "i", Column: 3}),
		"an index below all": withIndexes(t, catalog.Index{Name: "i", Column: -1}),
	}
	for _, name := range []string{"", "T", "1t", "select", "a b", strings.Repeat("t", 17)} {
		u := t
		u.Name = name
		l["the name "+name] = u
	}
	for _, key := range []int{-1, 3, 0, least, greatest} { // at 0 stands a column that may be NULL
		u := t
		u.Key = key
		l[fmt.Sprint("the key ", key)] = u
	}
	nine := shape(8, 1, 1)
	l["nine columns"] = withColumns(nine, func(l []api.Column) []api.Column { return append(l, api.Column{Name: "c8", Kind: 1}) })
	return l
}

func fits(t *testing.T, what string, x catalog.Table, l row, want api.Errno) {
	t.Helper()
	if e := rows.Fits(x, l); e != want {
		t.Errorf("%s: Fits(%v, %v) = %d, not %d", what, x, l, e, want)
	}
}

func checks(t *testing.T, what string, x catalog.Table, l []row, want api.Errno) {
	t.Helper()
	if e := rows.Check(x, l); e != want {
		t.Errorf("%s: Check of %d rows = %d, not %d", what, len(l), e, want)
	}
}

func finds(t *testing.T, what string, x catalog.Table, l []row, key api.Value, place int, is bool) {
	t.Helper()
	if at, there, e := rows.Find(x, l, key); at != place || there != is || e != api.OK {
		t.Errorf("%s: Find of %v among %d rows = %d, %t, %d, not %d, %t", what, key, len(l), at, there, e, place, is)
	}
}

// refusesAll holds that rows may not be l: all calls but Fits tell it first, whatever else they are given.
func refusesAll(t *testing.T, what string, x catalog.Table, l []row, want api.Errno) {
	t.Helper()
	checks(t, what, x, l, want)
	someKeys := [][]api.Value{nil, {}, {num(1)}, {nth(1, 0), nth(1, 0)}, {null}, {text("a"), {Kind: 4}}}
	someRows := [][]row{nil, {}, {nil}, {{null, null, null}}, {{num(1)}, {num(1)}}, many(shape(3, 1, 1), 0, 300), l}
	for _, keys := range someKeys {
		for _, key := range append(keys, null) {
			if at, is, e := rows.Find(x, l, key); at != 0 || is || e != want {
				t.Errorf("%s: Find = %d, %t, %d, not %d", what, at, is, e, want)
			}
		}
		if next, e := rows.Delete(x, l, keys); len(next) != 0 || e != want {
			t.Errorf("%s: Delete = %s, %d, not %d", what, brief(next), e, want)
		}
		for _, given := range someRows {
			if next, e := rows.Update(x, l, keys, given); len(next) != 0 || e != want {
				t.Errorf("%s: Update = %s, %d, not %d", what, brief(next), e, want)
			}
		}
	}
	for _, given := range someRows {
		if next, e := rows.Insert(x, l, given); len(next) != 0 || e != want {
			t.Errorf("%s: Insert = %s, %d, not %d", what, brief(next), e, want)
		}
	}
}

func TestP91FitsTakesWhatFits(t *testing.T) {
	for _, x := range shapes() {
		for i, key := range risingKeys(x.Columns[x.Key].Kind) {
			l := fitting(x, key, i)
			fits(t, "a row", x, l, api.OK)
			for at, c := range x.Columns {
				for _, v := range risingKeys(c.Kind) {
					fits(t, "a value of its kind", x, with(l, at, v), api.OK)
				}
				if !c.NotNull {
					fits(t, "NULL", x, with(l, at, null), api.OK)
				}
			}
		}
	}
}

func TestP91FitsRefusesOneValue(t *testing.T) {
	for _, x := range shapes() {
		l := fitting(x, risingKeys(x.Columns[x.Key].Kind)[1], 1)
		for at, c := range x.Columns {
			for _, v := range wrong() { // ahead of ErrNull and ErrType: NULL that may not be, other kinds that may not be
				fits(t, "a value that may not be", x, with(l, at, v), api.ErrState)
			}
			if c.NotNull {
				fits(t, "NULL", x, with(l, at, null), api.ErrNull)
			}
			for kind := 1; kind <= 3; kind++ {
				for _, v := range risingKeys(kind) {
					if kind != c.Kind {
						fits(t, "another kind", x, with(l, at, v), api.ErrType)
					}
				}
			}
		}
	}
}

func TestP91FitsGoesColumnByColumn(t *testing.T) {
	x := withColumns(shape(8, 4, 1), func(l []api.Column) []api.Column {
		for i := range l {
			l[i].NotNull = true
		}
		return l
	})
	l := fitting(x, num(1), 1)
	other := func(at int) api.Value { return nth(x.Columns[at].Kind%3+1, 1) }
	faults := []struct {
		err api.Errno
		of  func(at int) api.Value
	}{
		{api.ErrState, func(at int) api.Value { return api.Value{Kind: 4} }},
		{api.ErrNull, func(at int) api.Value { return null }},
		{api.ErrType, other},
	}
	for i := range 8 {
		for j := range i {
			for _, first := range faults {
				for _, second := range faults {
					fits(t, "two faults", x, with(with(l, i, second.of(i)), j, first.of(j)), first.err)
				}
			}
		}
	}
}

func TestP91FitsCountsAheadOfValues(t *testing.T) {
	for _, x := range shapes() {
		l := fitting(x, risingKeys(x.Columns[x.Key].Kind)[0], 1)
		for n := range len(l) {
			fits(t, "too few", x, l[:n], api.ErrCount)
			if n > 0 {
				fits(t, "too few, one of which may not be", x, with(l, 0, api.Value{Kind: 9})[:n], api.ErrCount)
				fits(t, "too few, one of which is NULL", x, with(l, n-1, null)[:n], api.ErrCount)
			}
		}
		for _, v := range []api.Value{null, num(1), yes, text(""), {Kind: 4}} {
			fits(t, "one too many", x, append(slices.Clone(l), v), api.ErrCount)
			fits(t, "one too many, ahead", x, append(row{v}, l...), api.ErrCount)
		}
		fits(t, "none", x, nil, api.ErrCount)
		fits(t, "none", x, row{}, api.ErrCount)
		fits(t, "many", x, make(row, 5000), api.ErrCount)
	}
}

func TestP91FitsAsksTheTableFirst(t *testing.T) {
	good := fitting(shape(3, 1, 1), num(1), 1)
	fits(t, "a row of the table", shape(3, 1, 1), good, api.OK)
	for what, x := range wrongTables() {
		for _, l := range []row{good, nil, {}, {null, null, null}, {{Kind: 4}}, good[:2], make(row, 8), make(row, 9)} {
			fits(t, what, x, l, api.ErrState)
		}
	}
}

func TestP91CheckTakesRowsWhoseKeysRise(t *testing.T) {
	for _, x := range shapes() {
		var l []row
		checks(t, "no rows", x, nil, api.OK)
		checks(t, "no rows", x, []row{}, api.OK)
		for _, key := range risingKeys(x.Columns[x.Key].Kind) {
			l = append(l, fitting(x, key, 3)) // all others are alike
			checks(t, "rows", x, l, api.OK)
		}
	}
}

func TestP91CheckCounts(t *testing.T) {
	for _, kind := range []int{1, 3} {
		x := shape(3, 1, kind)
		for _, n := range []int{0, 1, 2, 255, 256} {
			checks(t, "as many as may be", x, many(x, 0, n), api.OK)
		}
		for _, n := range []int{257, 258, 600} {
			refusesAll(t, "too many", x, many(x, 0, n), api.ErrCount)
		}
		l := many(x, 0, 256)
		refusesAll(t, "too many, one twice", x, append(l, l[255]), api.ErrCount)
		refusesAll(t, "too many, which have no values", x, make([]row, 257), api.ErrCount)
		l[0] = row{null, null, null}
		checks(t, "as many as may be, one of which does not fit", x, l, api.ErrNull)
		refusesAll(t, "too many, one of which does not fit", x, append(l, many(x, 256, 257)...), api.ErrCount)
	}
	for what, x := range wrongTables() {
		refusesAll(t, what+", and too many", x, make([]row, 257), api.ErrCount)
		refusesAll(t, what+", and too many", x, many(shape(3, 1, 1), 0, 257), api.ErrCount)
	}
}

func TestP91CheckAsksTheTableAheadOfRows(t *testing.T) {
	good := many(shape(3, 1, 1), 0, 4)
	for what, x := range wrongTables() {
		refusesAll(t, what+", no rows", x, nil, api.ErrState)
		refusesAll(t, what+", no rows", x, []row{}, api.ErrState)
		for _, l := range [][]row{good, {nil}, {{null, null, null}}, {good[0], good[1][:2]}, {good[1], good[0]}, many(shape(3, 1, 1), 0, 256)} {
			refusesAll(t, what, x, l, api.ErrState)
		}
	}
}

func TestP91CheckTellsWhatDoesNotFit(t *testing.T) {
	x := shape(3, 1, 1)
	faults := map[api.Errno]row{
		api.ErrCount: {num(1), num(1)},
		api.ErrState: {num(1), num(1), {Kind: 4}},
		api.ErrNull:  {num(1), null, null},
		api.ErrType:  {yes, num(1), null},
	}
	good := many(x, 0, 5)
	for err, l := range faults {
		refusesAll(t, "one row", x, []row{l}, err)
		for at := range good {
			all := slices.Clone(good)
			all[at] = l
			refusesAll(t, fmt.Sprint("the row at ", at), x, all, err)
		}
		for other, m := range faults {
			if other != err {
				refusesAll(t, "two rows", x, []row{good[0], l, good[2], m}, err)
			}
		}
		// That keys do not rise is told behind all that does not fit.
		refusesAll(t, "keys that fall ahead", x, []row{good[1], good[0], l}, err)
		refusesAll(t, "a key twice ahead", x, []row{good[1], good[1], good[2], l, good[0]}, err)
	}
}

func TestP91CheckAsksWhetherKeysRise(t *testing.T) {
	for _, x := range []catalog.Table{shape(1, 0, 1), shape(1, 0, 2), shape(1, 0, 3), shape(3, 0, 1), shape(3, 1, 2), shape(3, 2, 3)} {
		keys := risingKeys(x.Columns[x.Key].Kind)
		var l []row
		for i, key := range keys {
			l = append(l, fitting(x, key, i))
		}
		for i := range l {
			for j := range l {
				pair := []row{l[i], fitting(x, keys[j], i+5)}
				if i < j {
					checks(t, "keys that rise", x, pair, api.OK)
				} else {
					refusesAll(t, fmt.Sprint("keys ", keys[i], keys[j]), x, pair, api.ErrState)
				}
				all := slices.Clone(l)
				all[i] = fitting(x, keys[j], 7)
				if i != j {
					refusesAll(t, fmt.Sprint("the key of ", j, " at ", i), x, all, api.ErrState)
				}
			}
		}
	}
	x := shape(2, 0, 1)
	l := many(x, 0, 256)
	l[255] = fitting(x, nth(1, 254), 9)
	refusesAll(t, "the last of 256", x, l, api.ErrState)
}

func TestP91FindTellsThePlace(t *testing.T) {
	for kind := 1; kind <= 3; kind++ {
		keys := risingKeys(kind)
		for _, x := range []catalog.Table{shape(1, 0, kind), shape(3, 0, kind), shape(4, 2, kind), shape(8, 7, kind)} {
			for some := range 1 << len(keys) {
				var l []row
				for i, key := range keys {
					if some>>i&1 == 1 {
						l = append(l, fitting(x, key, 20-i))
					}
				}
				place := 0
				for i, key := range keys {
					finds(t, "a key", x, l, key, place, some>>i&1 == 1)
					place += some >> i & 1
				}
			}
		}
	}
}

func TestP91FindAmongAsManyAsMayBe(t *testing.T) {
	for _, kind := range []int{1, 3} {
		x := shape(4, 1, kind)
		var l []row
		for n := range 256 {
			l = append(l, fitting(x, nth(kind, 2*n+1), n))
		}
		for n := range 256 {
			finds(t, "between", x, l, nth(kind, 2*n), n, false)
			finds(t, "there", x, l, nth(kind, 2*n+1), n, true)
		}
		finds(t, "behind", x, l, nth(kind, 512), 256, false)
	}
}

// Values are ordered by their Kinds first, whether they may be or not.
func TestP91FindOfKeysOfOtherKinds(t *testing.T) {
	for _, x := range shapes() {
		kind := x.Columns[x.Key].Kind
		var l []row
		for i, key := range risingKeys(kind) {
			l = append(l, fitting(x, key, i))
		}
		for _, v := range append(wrong(), null, num(0), num(5), yes, text(""), text("a")) {
			switch {
			case v.Kind < kind:
				finds(t, "a lower kind", x, l, v, 0, false)
			case v.Kind > kind:
				finds(t, "a higher kind", x, l, v, len(l), false)
			}
			finds(t, "none", x, nil, v, 0, false)
		}
	}
	truths := shape(1, 0, 2)
	finds(t, "a truth above true", truths, []row{{no}, {yes}}, api.Value{Kind: 2, N: 2}, 2, false)
	finds(t, "a truth below false", truths, []row{{no}, {yes}}, api.Value{Kind: 2, N: -1}, 0, false)
	texts := shape(1, 0, 3)
	finds(t, "a text of 65", texts, []row{{text(strings.Repeat("a", 64))}, {text("b")}}, text(strings.Repeat("a", 65)), 1, false)
}

// What may not be at all is told, and nothing panics.
func TestP91NothingIsNeeded(t *testing.T) {
	fits(t, "nothing", catalog.Table{}, nil, api.ErrState)
	refusesAll(t, "nothing", catalog.Table{}, nil, api.ErrState)
	x := shape(3, 1, 1)
	for _, v := range wrong() {
		at, _, e := rows.Find(x, many(x, 0, 3), v)
		if at < 0 || at > 3 || e != api.OK {
			t.Errorf("Find(%v) = %d, %d", v, at, e)
		}
	}
}
