package query_test

import (
	"fmt"
	"slices"
	"testing"

	"switchback/api"
	"switchback/query"
	"switchback/value"
)

func rising(n int) api.Order { return api.Order{N: n} }

func falling(n int) api.Order { return api.Order{N: n, Desc: true} }

func orders(l ...api.Order) []api.Order { return l }

func TestP103SortByOneValue(t *testing.T) {
	a, b, c, d := row{num(2), text("a")}, row{num(-3), text("b")}, row{num(10), text("")}, row{num(0), text("ab")}
	l := []row{a, b, c, d}
	sorts(t, "by numbers", l, orders(rising(1)), -1, b, d, a, c)
	sorts(t, "by numbers, falling", l, orders(falling(1)), -1, c, a, d, b)
	sorts(t, "by texts", l, orders(rising(2)), -1, c, a, d, b)
	sorts(t, "by texts, falling", l, orders(falling(2)), -1, b, d, a, c)
	sorts(t, "by truths", []row{{yes}, {no}, {yes}}, orders(rising(1)), -1, row{no}, row{yes}, row{yes})
	sorts(t, "by truths, falling", []row{{no}, {yes}, {no}}, orders(falling(1)), -1, row{yes}, row{no}, row{no})
	sorts(t, "by none", l, nil, -1, l...)
	sorts(t, "by none", l, orders(), -1, l...)
	kinds := []row{{text("")}, {num(greatest)}, {yes}, {null}, {no}, {num(least)}, {text("\xff")}}
	sorts(t, "NULL comes first, then numbers, truths, texts", kinds, orders(rising(1)), -1, kinds[3], kinds[5], kinds[1], kinds[4], kinds[2], kinds[0], kinds[6])
	sorts(t, "falling, NULL comes last", kinds, orders(falling(1)), -1, kinds[6], kinds[0], kinds[2], kinds[4], kinds[1], kinds[5], kinds[3])
}

func TestP103SortBySeveralValues(t *testing.T) {
	var l []row
	for _, v := range []api.Value{num(1), null, num(0)} {
		for _, w := range []api.Value{text("b"), null, text("a")} {
			l = append(l, row{v, w, num(len(l))})
		}
	}
	pick := func(places ...int) []row {
		var want []row
		for _, i := range places {
			want = append(want, l[i])
		}
		return want
	}
	sorts(t, "rising, rising", l, orders(rising(1), rising(2)), -1, pick(4, 5, 3, 7, 8, 6, 1, 2, 0)...)
	sorts(t, "rising, falling", l, orders(rising(1), falling(2)), -1, pick(3, 5, 4, 6, 8, 7, 0, 2, 1)...)
	sorts(t, "falling, rising", l, orders(falling(1), rising(2)), -1, pick(1, 2, 0, 7, 8, 6, 4, 5, 3)...)
	sorts(t, "falling, falling", l, orders(falling(1), falling(2)), -1, pick(0, 2, 1, 6, 8, 7, 3, 5, 4)...)
	sorts(t, "the second first", l, orders(rising(2), rising(1)), -1, pick(4, 7, 1, 5, 8, 2, 3, 6, 0)...)
	sorts(t, "the second first, falling", l, orders(falling(2), rising(1)), -1, pick(3, 6, 0, 5, 8, 2, 4, 7, 1)...)
	sorts(t, "one place twice", l, orders(rising(1), falling(1), falling(3)), -1, pick(5, 4, 3, 8, 7, 6, 2, 1, 0)...)
	sorts(t, "the third last", l, orders(falling(3)), -1, pick(8, 7, 6, 5, 4, 3, 2, 1, 0)...)
}

// Like rows stay in their order, falling or not.
func TestP103LikeRowsStay(t *testing.T) {
	var l []row
	for i := range 3000 {
		l = append(l, row{num(i * 7919 % 13), is(i*31%5 < 2), num(i)})
	}
	for _, order := range [][]api.Order{{rising(1)}, {falling(1)}, {rising(2)}, {falling(2)}, {rising(2), falling(1)}, {falling(1), falling(2)}} {
		next, err := query.Sort(l, order, -1)
		if len(next) != len(l) || err != api.OK {
			t.Fatalf("Sort by %v = %s, %d", order, brief(next), err)
		}
		for i := 1; i < len(next); i++ {
			if !standsBehind(next[i-1], next[i], order) {
				t.Errorf("Sort by %v: %v ahead of %v", order, next[i-1], next[i])
			}
		}
	}
	like := []row{{{Kind: 1, N: 5, Text: "b"}}, {num(5)}, {num(4)}, {{Kind: 1, N: 5, Text: "a"}}}
	sorts(t, "values that may not be", like, orders(rising(1)), -1, like[2], like[0], like[1], like[3])
	sorts(t, "values that may not be, falling", like, orders(falling(1)), -1, like[0], like[1], like[3], like[2])
}

// standsBehind tells whether b stands behind a: the last value tells which one came first.
func standsBehind(a, b row, order []api.Order) bool {
	for _, o := range order {
		if c := value.Order(a[o.N-1], b[o.N-1]); c != 0 {
			return (c < 0) == !o.Desc
		}
	}
	return a[len(a)-1].N < b[len(b)-1].N
}

func TestP103Limits(t *testing.T) {
	l := []row{numbers(3), numbers(1), numbers(2)}
	for limit, want := range map[int][]row{
		least: {l[1], l[2], l[0]}, -2: {l[1], l[2], l[0]}, -1: {l[1], l[2], l[0]},
		0: {}, 1: {l[1]}, 2: {l[1], l[2]},
		3: {l[1], l[2], l[0]}, 4: {l[1], l[2], l[0]}, 1 << 31: {l[1], l[2], l[0]}, 1<<32 + 1: {l[1], l[2], l[0]}, greatest: {l[1], l[2], l[0]},
	} {
		sorts(t, fmt.Sprint("limit ", limit), l, orders(rising(1)), limit, want...)
		unsorted := []row{l[0], l[1], l[2]}[:len(want)]
		sorts(t, fmt.Sprint("limit ", limit, ", no order"), l, nil, limit, unsorted...)
		sorts(t, fmt.Sprint("limit ", limit, ", no rows"), nil, nil, limit)
		sorts(t, fmt.Sprint("limit ", limit, ", no rows"), []row{}, orders(rising(1)), limit)
	}
	many, err := query.Sort(upTo(20000), orders(falling(1)), 5000)
	if len(many) != 5000 || err != api.OK || !slices.Equal(many[0], numbers(19999)) || !slices.Equal(many[4999], numbers(15000)) {
		t.Errorf("Sort of many = %s, %d", brief(many), err)
	}
}

func TestP103PlacesOutOfRange(t *testing.T) {
	l := []row{numbers(3, 1), numbers(1, 2), numbers(2, 2)}
	for _, n := range []int{0, -1, -2, least, 3, 4, 1 << 32, 1<<32 + 1, greatest} {
		for _, limit := range []int{-1, 0, 1, 5} {
			refusesSort(t, fmt.Sprint("N ", n), l, orders(rising(n)), limit, api.ErrRange)
			refusesSort(t, fmt.Sprint("N ", n, ", falling"), l, orders(falling(n)), limit, api.ErrRange)
			refusesSort(t, fmt.Sprint("N ", n, " of one row"), l[:1], orders(rising(n)), limit, api.ErrRange)
			refusesSort(t, fmt.Sprint("N ", n, " behind others"), l, orders(rising(1), falling(2), rising(n)), limit, api.ErrRange)
			refusesSort(t, fmt.Sprint("N ", n, " ahead of others"), l, orders(rising(n), falling(2)), limit, api.ErrRange)
			sorts(t, fmt.Sprint("N ", n, " of no rows"), nil, orders(rising(n)), limit)
		}
	}
	for i := range l {
		short := slices.Clone(l)
		short[i] = short[i][:1]
		refusesSort(t, "a row that is short", short, orders(rising(2)), -1, api.ErrRange)
		refusesSort(t, "a row that is short", short, orders(rising(1), rising(2)), 0, api.ErrRange)
		short[i] = nil
		refusesSort(t, "a row of nothing", short, orders(rising(1)), -1, api.ErrRange)
	}
	sorts(t, "rows of unlike widths", []row{numbers(3, 1), numbers(1), numbers(2, 2, 2)}, orders(rising(1)), -1, numbers(1), numbers(2, 2, 2), numbers(3, 1))
	sorts(t, "rows of nothing", []row{nil, {}}, nil, -1, nil, nil)
}

// All orders of few rows come to one.
func TestP103AllOrdersOfFewRows(t *testing.T) {
	l := []row{{null, num(1)}, {num(-2), num(2)}, {num(5), num(3)}, {no, num(4)}, {text("a"), num(5)}, {text("b"), num(6)}}
	back := slices.Clone(l)
	slices.Reverse(back)
	var turn func(n int, given []row)
	turn = func(n int, given []row) {
		if n == len(given) {
			sorts(t, "rising", given, orders(rising(1)), -1, l...)
			sorts(t, "falling", given, orders(falling(1)), -1, back...)
			sorts(t, "the least", given, orders(rising(1)), 2, l[:2]...)
		}
		for i := n; i < len(given); i++ {
			given[n], given[i] = given[i], given[n]
			turn(n+1, given)
			given[n], given[i] = given[i], given[n]
		}
	}
	turn(0, slices.Clone(l))
}
