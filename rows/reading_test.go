package rows_test

import (
	"fmt"
	"maps"
	"slices"
	"testing"

	"switchback/api"
	"switchback/catalog"
	"switchback/rows"
)

// rolled answers numbers below a bound, the same each time.
func rolled(seed uint64) func(n int) int {
	return func(n int) int {
		seed = seed*6364136223846793005 + 1442695040888963407
		return int(seed >> 33 % uint64(n))
	}
}

// A book is a second reading of the chapter: rows by their keys, in no order till they are told.
type book map[api.Value]row

// below tells whether a comes ahead of b: both are of one kind, and may be.
func below(a, b api.Value) bool {
	return a.N < b.N || a.Text < b.Text
}

func (b book) rows() []row {
	var keys []api.Value
	for key := range b {
		keys = append(keys, key)
	}
	slices.SortFunc(keys, func(a, b api.Value) int {
		if below(a, b) {
			return -1
		}
		return 1 // no two are one
	})
	var l []row
	for _, key := range keys {
		l = append(l, b[key])
	}
	return l
}

func fitsByChapter(x catalog.Table, l row) api.Errno {
	if _, err := catalog.Encode(x); err != api.OK {
		return api.ErrState
	}
	if len(l) < len(x.Columns) || len(l) > len(x.Columns) {
		return api.ErrCount
	}
	for i := range l {
		v, c := l[i], x.Columns[i]
		isValue := v.Kind == 0 && v == null || v.Kind == 1 && v == num(v.N) || v == no || v == yes || v.Kind == 3 && v == text(v.Text) && len(v.Text) <= 64
		switch {
		case !isValue:
			return api.ErrState
		case c.NotNull && v == null:
			return api.ErrNull
		case v != null && v.Kind != c.Kind:
			return api.ErrType
		}
	}
	return api.OK
}

// bookOf answers the rows as a book, or what Check tells of them.
func bookOf(x catalog.Table, l []row) (book, api.Errno) {
	if len(l) >= 257 {
		return nil, api.ErrCount
	}
	if _, err := catalog.Encode(x); err != api.OK {
		return nil, api.ErrState
	}
	b := book{}
	for _, r := range l {
		if err := fitsByChapter(x, r); err != api.OK {
			return nil, err
		}
		b[r[x.Key]] = r
	}
	if !same(b.rows(), l) {
		return nil, api.ErrState
	}
	return b, api.OK
}

func (b book) insert(x catalog.Table, l []row) api.Errno {
	for _, r := range l {
		if err := fitsByChapter(x, r); err != api.OK {
			return err
		}
		if _, is := b[r[x.Key]]; is {
			return api.ErrKey
		}
		if len(b) == 256 {
			return api.ErrFull
		}
		b[r[x.Key]] = r
	}
	return api.OK
}

func (b book) delete(keys []api.Value) api.Errno {
	for _, key := range keys {
		if _, is := b[key]; !is {
			return api.ErrNone
		}
		delete(b, key)
	}
	return api.OK
}

// agrees holds that all calls tell what the book tells.
func agrees(t *testing.T, x catalog.Table, l []row, keys []api.Value, given []row, seen map[string]int) {
	t.Helper()
	for _, r := range slices.Concat(l, given) {
		if e := rows.Fits(x, r); e != fitsByChapter(x, r) {
			t.Fatalf("Fits(%v, %v) = %d", x, r, e)
		}
	}
	_, wrong := bookOf(x, l)
	if e := rows.Check(x, l); e != wrong {
		t.Fatalf("Check of %s in %v = %d, not %d", brief(l), x, e, wrong)
	}
	seen[fmt.Sprint("Check", wrong)]++
	tell := func(call string, next []row, e api.Errno, change func(b book) api.Errno) {
		t.Helper()
		b, want := bookOf(x, l)
		if want == api.OK {
			want = change(b)
		}
		var wish []row
		if want == api.OK {
			wish = b.rows()
			if rows.Check(x, next) != api.OK {
				t.Fatalf("%s made rows that may not be: %s", call, brief(next))
			}
		}
		if e != want || !same(next, wish) {
			t.Fatalf("%s of %v, %s to %s in %v = %s, %d, not %s, %d", call, keys, brief(given), brief(l), x, brief(next), e, brief(wish), want)
		}
		seen[fmt.Sprint(call, want)]++
	}
	next, e := rows.Insert(x, l, given)
	tell("Insert", next, e, func(b book) api.Errno { return b.insert(x, given) })
	next, e = rows.Delete(x, l, keys)
	tell("Delete", next, e, func(b book) api.Errno { return b.delete(keys) })
	next, e = rows.Update(x, l, keys, given)
	tell("Update", next, e, func(b book) api.Errno {
		if len(keys) != len(given) {
			return api.ErrCount
		}
		if err := b.delete(keys); err != api.OK {
			return err
		}
		return b.insert(x, given)
	})
}

// A roller makes tables, rows and keys, most of which may be.
type roller func(n int) int

func (next roller) table() catalog.Table {
	columns := 1 + next(8)
	x := shape(columns, next(columns), 1+next(3))
	if next(40) == 0 {
		bad := wrongTables()
		names := slices.Sorted(maps.Keys(bad))
		return bad[names[next(len(names))]]
	}
	return x
}

func (next roller) row(x catalog.Table, n int) row {
	key := null
	if x.Key >= 0 && x.Key < len(x.Columns) {
		key = nth(min(3, max(1, x.Columns[x.Key].Kind)), n)
	}
	l := row{key, num(1), null}
	if _, e := catalog.Encode(x); e == api.OK {
		l = fitting(x, key, next(9))
	}
	if next(60) == 0 {
		at := next(len(l))
		l = with(l, at, [...]api.Value{null, num(0), yes, text("a"), wrong()[next(len(wrong()))]}[next(5)])
	}
	if next(150) == 0 {
		l = append(l, null)[1-next(2):]
		return l[:next(len(l)+1)]
	}
	return l
}

// state is a list of rows whose keys are some of the first ones.
func (next roller) state(x catalog.Table, keys int) []row {
	var l []row
	for n := range keys {
		if next(3) > 0 {
			l = append(l, next.row(x, n))
		}
	}
	if len(l) > 1 && next(30) == 0 {
		i, j := next(len(l)), next(len(l))
		l[i], l[j] = l[j], l[i]
		if next(2) == 0 {
			l[i] = l[j]
		}
	}
	return l
}

func (next roller) keys(kind int, keys int, n int) []api.Value {
	var l []api.Value
	for range n {
		l = append(l, nth(kind, next(keys)))
		if next(100) == 0 {
			l[len(l)-1] = [...]api.Value{null, num(1), yes, text(""), {Kind: 4}}[next(5)]
		}
	}
	return l
}

func (next roller) rows(x catalog.Table, keys int, n int) []row {
	var l []row
	for range n {
		l = append(l, next.row(x, next(keys)))
	}
	return l
}

func TestP92RolledCalls(t *testing.T) {
	next := roller(rolled(92))
	seen := map[string]int{}
	for range 20000 {
		x := next.table()
		kind, keys := 3, 1+next(9)
		if x.Key >= 0 && x.Key < len(x.Columns) {
			kind = min(3, max(1, x.Columns[x.Key].Kind))
		}
		if kind == 2 {
			keys = 1 + next(2)
		}
		given := next.rows(x, keys+next(3), next(5))
		asked := next.keys(kind, keys, len(given))
		if next(9) == 0 {
			asked = next.keys(kind, keys, next(4))
		}
		if next(2) == 0 { // a turn of the keys
			for i := range asked {
				if i < len(given) && x.Key >= 0 && x.Key < len(given[i]) {
					given[i] = with(given[i], x.Key, asked[len(asked)-1-i])
				}
			}
		}
		agrees(t, x, next.state(x, keys), asked, given, seen)
	}
	for _, call := range []string{"Check", "Insert", "Delete", "Update"} {
		for _, err := range []api.Errno{api.OK, api.ErrState, api.ErrCount, api.ErrNull, api.ErrType} {
			if seen[fmt.Sprint(call, err)] < 50 {
				t.Errorf("only %d of %s told %d", seen[fmt.Sprint(call, err)], call, err)
			}
		}
	}
	for _, call := range []string{fmt.Sprint("Insert", api.ErrKey), fmt.Sprint("Delete", api.ErrNone), fmt.Sprint("Update", api.ErrKey), fmt.Sprint("Update", api.ErrNone)} {
		if seen[call] < 500 {
			t.Errorf("only %d %s", seen[call], call)
		}
	}
}

func TestP92RolledCallsAtTheEndOfTheRoom(t *testing.T) {
	next := roller(rolled(29))
	seen := map[string]int{}
	for range 120 {
		x := shape(3, next(3), 1+2*next(2))
		kind := x.Columns[x.Key].Kind
		l := many(x, 0, 260)
		for range 4 + next(6) - next(2)*next(3) {
			at := next(len(l))
			l = slices.Delete(l, at, at+1)
		}
		given := next.rows(x, 265, next(6))
		agrees(t, x, l, next.keys(kind, 260, len(given)), given, seen)
		given = many(x, 260, 260+next(6))
		agrees(t, x, l, next.keys(kind, 260, len(given)), given, seen)
	}
	for _, call := range []string{fmt.Sprint("Insert", api.OK), fmt.Sprint("Insert", api.ErrFull), fmt.Sprint("Insert", api.ErrKey), fmt.Sprint("Update", api.OK), fmt.Sprint("Check", api.ErrCount)} {
		if seen[call] < 10 {
			t.Errorf("only %d %s", seen[call], call)
		}
	}
}

// One call after another: the rows that follow may be, and each row that came and did not go is found, as it came.
func TestP93P94RowsThatFollow(t *testing.T) {
	next := roller(rolled(94))
	for kind := 1; kind <= 3; kind++ {
		for range 30 {
			columns := 1 + next(8)
			x := shape(columns, next(columns), kind)
			keys := [...]int{1: 300, 2: 2, 3: 12}[kind]
			b, l := book{}, []row(nil)
			for step := range 150 {
				given := next.rows(x, keys, 1+next(4))
				asked := next.keys(kind, keys, len(given))
				then := book{}
				for key, r := range b {
					then[key] = r
				}
				made, e := l, api.OK
				var want api.Errno
				switch next(4) {
				case 0:
					made, e = rows.Delete(x, l, asked)
					want = then.delete(asked)
				case 1:
					made, e = rows.Update(x, l, asked, given)
					if want = then.delete(asked); want == api.OK {
						want = then.insert(x, given)
					}
				default:
					made, e = rows.Insert(x, l, given)
					want = then.insert(x, given)
				}
				if e != want {
					t.Fatalf("step %d of %v: %d, not %d", step, x, e, want)
				}
				if e != api.OK {
					continue
				}
				b, l = then, made
				if rows.Check(x, l) != api.OK || len(l) != len(b) {
					t.Fatalf("step %d of %v: what follows may not be", step, x)
				}
				for key, r := range b {
					at, is, e := rows.Find(x, l, key)
					if e != api.OK || !is || !slices.Equal(l[at], r) {
						t.Fatalf("step %d of %v: %v is not found: %d, %t, %d", step, x, key, at, is, e)
					}
				}
				for range 5 {
					key := nth(kind, next(keys))
					if _, is, e := rows.Find(x, l, key); e != api.OK || is != (b[key] != nil) {
						t.Fatalf("step %d of %v: Find of %v tells %t, %d", step, x, key, is, e)
					}
				}
			}
		}
	}
}
