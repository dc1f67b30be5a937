package rows_test

import (
	"fmt"
	"slices"
	"testing"

	"switchback/api"
	"switchback/catalog"
	"switchback/rows"
)

func same(a, b []row) bool {
	return slices.EqualFunc(a, b, slices.Equal[row])
}

// brief shows a list of rows, as far as it is short.
func brief(l []row) string {
	if len(l) > 12 {
		return fmt.Sprint(len(l), " rows, from ", l[0], " to ", l[len(l)-1])
	}
	return fmt.Sprint(l)
}

// stands holds that rows are as they ought to be, may be, and are found.
func stands(t *testing.T, what string, x catalog.Table, l []row, e api.Errno, want []row) {
	t.Helper()
	if e != api.OK || !same(l, want) {
		t.Fatalf("%s: %s, %d, not %s", what, brief(l), e, brief(want))
	}
	checks(t, what, x, l, api.OK)
	for i, r := range l {
		finds(t, what, x, l, r[x.Key], i, true)
	}
}

func inserts(t *testing.T, what string, x catalog.Table, l, given, want []row) {
	t.Helper()
	next, e := rows.Insert(x, l, given)
	stands(t, what+": Insert", x, next, e, want)
}

func deletes(t *testing.T, what string, x catalog.Table, l []row, keys []api.Value, want []row) {
	t.Helper()
	next, e := rows.Delete(x, l, keys)
	stands(t, what+": Delete", x, next, e, want)
}

func updates(t *testing.T, what string, x catalog.Table, l []row, keys []api.Value, given, want []row) {
	t.Helper()
	next, e := rows.Update(x, l, keys, given)
	stands(t, what+": Update", x, next, e, want)
}

func refusesInsert(t *testing.T, what string, x catalog.Table, l, given []row, want api.Errno) {
	t.Helper()
	if next, e := rows.Insert(x, l, given); len(next) != 0 || e != want {
		t.Errorf("%s: Insert = %s, %d, not %d", what, brief(next), e, want)
	}
}

func refusesDelete(t *testing.T, what string, x catalog.Table, l []row, keys []api.Value, want api.Errno) {
	t.Helper()
	if next, e := rows.Delete(x, l, keys); len(next) != 0 || e != want {
		t.Errorf("%s: Delete = %s, %d, not %d", what, brief(next), e, want)
	}
}

func refusesUpdate(t *testing.T, what string, x catalog.Table, l []row, keys []api.Value, given []row, want api.Errno) {
	t.Helper()
	if next, e := rows.Update(x, l, keys, given); len(next) != 0 || e != want {
		t.Errorf("%s: Update = %s, %d, not %d", what, brief(next), e, want)
	}
}

// picked are those of l whose places are bits of some; kept are the others.
func picked[T any](l []T, some int) (picked, kept []T) {
	for i, v := range l {
		if some>>i&1 == 1 {
			picked = append(picked, v)
		} else {
			kept = append(kept, v)
		}
	}
	return picked, kept
}

// orders calls f with l in each order (l of few).
func orders[T any](l []T, f func(l []T)) {
	var turn func(n int)
	turn = func(n int) {
		if n == len(l) {
			f(slices.Clone(l))
		}
		for i := n; i < len(l); i++ {
			l[n], l[i] = l[i], l[n]
			turn(n + 1)
			l[n], l[i] = l[i], l[n]
		}
	}
	turn(0)
}

// faults are rows that do not fit shape(3, 1, 1), by what is told of them; but for the one too short their keys are that.
func faults(key api.Value) map[api.Errno]row {
	return map[api.Errno]row{
		api.ErrCount: {key},
		api.ErrState: {{Kind: 1, Text: "a"}, key, null},
		api.ErrNull:  {null, null, null},
		api.ErrType:  {text("a"), key, null},
	}
}

// The chapter's example.
func TestP92UpdateChangesKeysForOneAnother(t *testing.T) {
	x := shape(4, 2, 1)
	l := []row{fitting(x, num(1), 10), fitting(x, num(2), 20)}
	next, e := rows.Update(x, l, []api.Value{num(1), num(2)}, []row{with(l[0], 2, num(2)), with(l[1], 2, num(1))})
	stands(t, "1, 2 by 2, 1", x, next, e, []row{with(l[1], 2, num(1)), with(l[0], 2, num(2))})
	for kind := 1; kind <= 3; kind++ {
		x := shape(4, 2, kind)
		var l []row
		for i, key := range risingKeys(kind)[:2] {
			l = append(l, fitting(x, key, i))
		}
		updates(t, "two", x, l, []api.Value{l[1][2], l[0][2]}, []row{with(l[1], 2, l[0][2]), with(l[0], 2, l[1][2])}, []row{with(l[1], 2, l[0][2]), with(l[0], 2, l[1][2])})
	}
}

func TestP92InsertPutsEachInItsPlace(t *testing.T) {
	for kind := 1; kind <= 3; kind++ {
		keys := risingKeys(kind)
		for _, x := range []catalog.Table{shape(1, 0, kind), shape(4, 1, kind), shape(8, 7, kind)} {
			var all []row
			for i, key := range keys {
				all = append(all, fitting(x, key, i))
			}
			for some := range 1 << len(keys) {
				l, given := picked(all, some)
				inserts(t, "rising", x, l, given, all)
				slices.Reverse(given)
				inserts(t, "falling", x, l, given, all)
			}
			five := all[:min(5, len(all))]
			for some := range 1 << len(five) {
				l, given := picked(five, some)
				orders(given, func(given []row) { inserts(t, "in each order", x, l, given, five) })
			}
		}
	}
}

func TestP92InsertOfOneFirstBetweenAndLast(t *testing.T) {
	for _, kind := range []int{1, 3} {
		x := shape(3, 0, kind)
		all := many(x, 0, 256)
		for at := range all {
			l := slices.Delete(slices.Clone(all), at, at+1)
			inserts(t, fmt.Sprint("at ", at), x, l, all[at:at+1], all)
		}
		inserts(t, "all at once", x, nil, all, all)
		inserts(t, "all at once", x, []row{}, all, all)
		inserts(t, "none", x, all, nil, all)
		inserts(t, "none", x, all, []row{}, all)
		inserts(t, "none among none", x, nil, nil, nil)
	}
}

func TestP92InsertRefusesWhatDoesNotFit(t *testing.T) {
	x := shape(3, 1, 1)
	l := many(x, 0, 3)
	more := many(x, 3, 6)
	for _, there := range [][]row{nil, l, many(x, 0, 256)} {
		key := num(5)
		if len(there) > 0 {
			key = there[0][1] // ahead of ErrKey, and of ErrFull
		}
		for err, r := range faults(key) {
			refusesInsert(t, "one", x, there, []row{r}, err)
			for other, s := range faults(key) {
				refusesInsert(t, fmt.Sprint("ahead of ", other), x, there, []row{r, s}, err)
			}
		}
	}
	for err, r := range faults(num(5)) {
		for at := range more {
			given := slices.Clone(more)
			given[at] = r
			refusesInsert(t, "among others", x, l, given, err)
		}
		refusesInsert(t, "behind a key that is there", x, l, []row{more[0], l[1], r}, api.ErrKey)
		refusesInsert(t, "behind a key that came ahead", x, l, []row{more[0], more[0], r}, api.ErrKey)
		refusesInsert(t, "ahead of a key that is there", x, l, []row{more[0], r, l[1]}, err)
		refusesInsert(t, "ahead of no room", x, many(x, 0, 255), []row{r, fitting(x, nth(1, 400), 1), fitting(x, nth(1, 401), 1)}, err)
		refusesInsert(t, "at the end of the room", x, many(x, 0, 255), []row{fitting(x, nth(1, 400), 1), r, fitting(x, nth(1, 401), 1)}, err)
		refusesInsert(t, "behind no room", x, many(x, 0, 255), []row{fitting(x, nth(1, 400), 1), fitting(x, nth(1, 401), 1), r}, api.ErrFull)
	}
}

func TestP92InsertRefusesKeysThatAreThere(t *testing.T) {
	for kind := 1; kind <= 3; kind++ {
		keys := risingKeys(kind)
		for _, x := range []catalog.Table{shape(1, 0, kind), shape(4, 3, kind)} {
			var all []row
			for i, key := range keys {
				all = append(all, fitting(x, key, i))
			}
			for i, key := range keys {
				again := fitting(x, key, i+1) // only its key is one
				refusesInsert(t, "there", x, all, []row{again}, api.ErrKey)
				refusesInsert(t, "there, the same row", x, all, all[i:i+1], api.ErrKey)
				refusesInsert(t, "alone", x, all[i:i+1], []row{again}, api.ErrKey)
				refusesInsert(t, "twice at once", x, nil, []row{all[i], again}, api.ErrKey)
				refusesInsert(t, "twice at once, the same row", x, nil, []row{all[i], all[i]}, api.ErrKey)
				refusesInsert(t, "at the end", x, nil, append(slices.Clone(all), again), api.ErrKey)
				one := slices.Delete(slices.Clone(all), i, i+1)
				refusesInsert(t, "twice at once, among others", x, one, []row{again, all[i]}, api.ErrKey)
				inserts(t, "not there", x, one, all[i:i+1], all)
			}
		}
	}
}

func TestP92InsertRefusesMoreThanMayBe(t *testing.T) {
	for _, kind := range []int{1, 3} {
		x := shape(3, 1, kind)
		full, next, last := many(x, 0, 256), many(x, 256, 257), many(x, 300, 301)
		inserts(t, "the 256th", x, full[:255], full[255:], full)
		inserts(t, "the first of 256", x, full[1:], full[:1], full)
		refusesInsert(t, "the 257th", x, full, next, api.ErrFull)
		refusesInsert(t, "the 257th, the first", x, many(x, 1, 257), full[:1], api.ErrFull)
		refusesInsert(t, "two", x, full[:255], []row{full[255], next[0]}, api.ErrFull)
		refusesInsert(t, "all at once", x, nil, many(x, 0, 257), api.ErrFull)
		refusesInsert(t, "far more", x, nil, many(x, 0, 1000), api.ErrFull)
		refusesInsert(t, "a key that is there", x, full, full[7:8], api.ErrKey)
		refusesInsert(t, "a key that is there, at the end of the room", x, full[:255], []row{full[255], full[7]}, api.ErrKey)
		refusesInsert(t, "a key that came ahead, at the end of the room", x, full[:255], []row{full[255], full[255]}, api.ErrKey)
		refusesInsert(t, "no room, then a key that is there", x, full[:255], []row{full[255], last[0], full[7]}, api.ErrFull)
		inserts(t, "none into 256", x, full, nil, full)
	}
}

func TestP92DeleteTakesEachAway(t *testing.T) {
	for kind := 1; kind <= 3; kind++ {
		keys := risingKeys(kind)
		for _, x := range []catalog.Table{shape(1, 0, kind), shape(4, 1, kind), shape(8, 7, kind)} {
			var all []row
			for i, key := range keys {
				all = append(all, fitting(x, key, i))
			}
			for some := range 1 << len(keys) {
				_, want := picked(all, some)
				asked, _ := picked(keys, some)
				deletes(t, "rising", x, all, asked, want)
				slices.Reverse(asked)
				deletes(t, "falling", x, all, asked, want)
			}
			five := min(5, len(all))
			for some := range 1 << five {
				_, want := picked(all[:five], some)
				asked, _ := picked(keys[:five], some)
				orders(asked, func(asked []api.Value) { deletes(t, "in each order", x, all[:five], asked, want) })
			}
		}
	}
	x := shape(3, 1, 1)
	full := many(x, 0, 256)
	var keys []api.Value
	for at, r := range full {
		deletes(t, fmt.Sprint("at ", at), x, full, []api.Value{r[1]}, slices.Delete(slices.Clone(full), at, at+1))
		keys = append(keys, r[1])
	}
	deletes(t, "all", x, full, keys, nil)
	deletes(t, "none", x, full, nil, full)
	deletes(t, "none", x, full, []api.Value{}, full)
	deletes(t, "none of none", x, nil, nil, nil)
}

func TestP92DeleteRefusesWhatIsNotThere(t *testing.T) {
	for kind := 1; kind <= 3; kind++ {
		x := shape(4, 3, kind)
		keys := risingKeys(kind)
		var all []row
		for i, key := range keys {
			all = append(all, fitting(x, key, i))
		}
		for i, key := range keys {
			one := slices.Delete(slices.Clone(all), i, i+1)
			refusesDelete(t, "not there", x, one, []api.Value{key}, api.ErrNone)
			refusesDelete(t, "of none", x, nil, []api.Value{key}, api.ErrNone)
			refusesDelete(t, "twice", x, all, []api.Value{key, key}, api.ErrNone)
			refusesDelete(t, "twice, of one", x, all[i:i+1], []api.Value{key, key}, api.ErrNone)
			for _, other := range keys {
				refusesDelete(t, "twice, with one between", x, all, []api.Value{key, other, key}, api.ErrNone)
				refusesDelete(t, "behind one that is there", x, one, []api.Value{other, key}, api.ErrNone)
				refusesDelete(t, "ahead of one that is there", x, one, []api.Value{key, other}, api.ErrNone)
			}
		}
		for _, v := range append(wrong(), null, num(7), text("q")) {
			if v.Kind != kind || v == num(7) || v == text("q") {
				refusesDelete(t, "no key of the table", x, all, []api.Value{v}, api.ErrNone)
				refusesDelete(t, "no key of the table, behind one", x, all, []api.Value{keys[0], v}, api.ErrNone)
			}
		}
	}
	x := shape(2, 0, 1)
	refusesDelete(t, "far too many", x, many(x, 0, 3), make([]api.Value, 100000), api.ErrNone)
}

func TestP92UpdatePutsRowsInThePlaceOfOthers(t *testing.T) {
	x := shape(4, 1, 1)
	keys := risingKeys(1)[:4]
	var all []row
	for i, key := range keys {
		all = append(all, fitting(x, key, i))
	}
	for some := range 1 << len(all) {
		old, stay := picked(all, some)
		asked, _ := picked(keys, some)
		// The rows are told in any order: what counts is their keys, not which key of keys stands at their place.
		orders(slices.Clone(asked), func(turned []api.Value) {
			given := slices.Clone(old)
			want := slices.Clone(stay)
			for i := range given {
				given[i] = with(with(given[i], 1, turned[i]), 0, num(40+i))
				want = append(want, given[i])
			}
			slices.SortFunc(want, func(a, b row) int { return min(1, max(-1, slices.Index(keys, a[1])-slices.Index(keys, b[1]))) })
			updates(t, "changed for one another", x, all, asked, given, want)
		})
	}
	updates(t, "to new keys", x, all, []api.Value{keys[0], keys[2]}, []row{fitting(x, num(5), 5), fitting(x, num(-5), 6)}, []row{all[1], fitting(x, num(-5), 6), all[3], fitting(x, num(5), 5)})
	updates(t, "to the key of one that goes behind it", x, all, []api.Value{keys[0], keys[1]}, []row{with(all[0], 1, keys[1]), with(all[1], 1, num(-5))}, []row{with(all[0], 1, keys[1]), with(all[1], 1, num(-5)), all[2], all[3]})
	updates(t, "as they were", x, all, keys, all, all)
	updates(t, "none", x, all, nil, nil, all)
	updates(t, "none", x, all, []api.Value{}, []row{}, all)
	updates(t, "none of none", x, nil, nil, []row{}, nil)
}

func TestP92UpdateOfAsManyAsMayBe(t *testing.T) {
	for _, kind := range []int{1, 3} {
		x := shape(3, 1, kind)
		full := many(x, 0, 256)
		var keys []api.Value
		var up []row
		for n, r := range full {
			keys = append(keys, r[1])
			up = append(up, with(r, 1, nth(kind, n+1)))
			updates(t, "one of 256", x, full, keys[n:n+1], []row{with(r, 1, nth(kind, 900))}, append(slices.Delete(slices.Clone(full), n, n+1), with(r, 1, nth(kind, 900))))
		}
		updates(t, "each one up", x, full, keys, up, up)
	}
}

func TestP92UpdateRefuses(t *testing.T) {
	x := shape(3, 1, 1)
	l := many(x, 0, 4)
	key := func(at int) api.Value { return nth(1, at) }
	some := func(at ...int) []api.Value {
		var l []api.Value
		for _, n := range at {
			l = append(l, key(n))
		}
		return l
	}
	moved := func(at, to int) row { return with(l[at], 1, key(to)) }

	refusesUpdate(t, "a key that stays", x, l, some(0), []row{moved(0, 1)}, api.ErrKey)
	refusesUpdate(t, "a key that stays, behind one that goes", x, l, some(0, 1), []row{moved(0, 1), moved(1, 2)}, api.ErrKey)
	refusesUpdate(t, "two to one", x, l, some(0, 1), []row{moved(0, 9), moved(1, 9)}, api.ErrKey)
	refusesUpdate(t, "two to one of theirs", x, l, some(0, 1), []row{moved(0, 1), moved(1, 1)}, api.ErrKey)

	refusesUpdate(t, "not there", x, l, some(7), []row{moved(0, 9)}, api.ErrNone)
	refusesUpdate(t, "twice", x, l, some(1, 1), []row{moved(0, 8), moved(0, 9)}, api.ErrNone)
	refusesUpdate(t, "not there any more, though a row brings it", x, l, some(1, 9), []row{moved(1, 9), moved(1, 1)}, api.ErrNone)
	refusesUpdate(t, "not there, and a key that stays", x, l, some(7), []row{moved(0, 1)}, api.ErrNone)
	refusesUpdate(t, "a key that stays, then not there", x, l, some(0, 7), []row{moved(0, 1), moved(1, 8)}, api.ErrNone)
	refusesUpdate(t, "a key that is none", x, l, []api.Value{null}, []row{moved(0, 9)}, api.ErrNone)

	for err, r := range faults(key(0)) {
		refusesUpdate(t, "what does not fit", x, l, some(0), []row{r}, err)
		refusesUpdate(t, "what does not fit, behind one", x, l, some(0, 1), []row{moved(0, 9), r}, err)
		refusesUpdate(t, "what does not fit, ahead of a key that stays", x, l, some(0, 1), []row{r, moved(0, 2)}, err)
		refusesUpdate(t, "what does not fit, behind a key that stays", x, l, some(0, 1), []row{moved(0, 2), r}, api.ErrKey)
		refusesUpdate(t, "not there, and what does not fit", x, l, some(7), []row{r}, api.ErrNone)
		refusesUpdate(t, "what does not fit, then not there", x, l, some(0, 7), []row{r, moved(0, 9)}, api.ErrNone)
	}
}

// Another number of rows than keys goes ahead of all that is told of either.
func TestP92UpdateCountsFirst(t *testing.T) {
	x := shape(3, 1, 1)
	for _, l := range [][]row{nil, many(x, 0, 4), many(x, 0, 256)} {
		rowsOf := []row{fitting(x, nth(1, 0), 9), fitting(x, nth(1, 500), 9), {null}, {null, null, null}, nil}
		for _, r := range rowsOf {
			for _, key := range []api.Value{nth(1, 0), nth(1, 600), null, {Kind: 4}} {
				refusesUpdate(t, "no key", x, l, nil, []row{r}, api.ErrCount)
				refusesUpdate(t, "no row", x, l, []api.Value{key}, nil, api.ErrCount)
				refusesUpdate(t, "two rows", x, l, []api.Value{key}, []row{r, r}, api.ErrCount)
				refusesUpdate(t, "two keys", x, l, []api.Value{key, key}, []row{r}, api.ErrCount)
				refusesUpdate(t, "two keys", x, l, []api.Value{nth(1, 0), nth(1, 1)}, []row{r}, api.ErrCount)
			}
		}
		refusesUpdate(t, "many rows", x, l, nil, many(x, 0, 300), api.ErrCount)
	}
}

// A refused call has changed nothing: what is asked next is told as if it had not been.
func TestP92RefusedCallsChangeNothing(t *testing.T) {
	x := shape(4, 1, 1)
	l := many(x, 0, 4)
	was := slices.Clone(l)
	refusesInsert(t, "the second", x, l, []row{many(x, 7, 8)[0], l[0]}, api.ErrKey)
	refusesDelete(t, "the second", x, l, []api.Value{nth(1, 0), nth(1, 9)}, api.ErrNone)
	refusesUpdate(t, "the rows", x, l, []api.Value{nth(1, 0)}, []row{l[1]}, api.ErrKey)
	if !same(was, l) {
		t.Errorf("%v, not %v", l, was)
	}
	inserts(t, "none", x, l, nil, was)
}
