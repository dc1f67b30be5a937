package lock_test

import (
	"math"
	"slices"
	"strings"
	"testing"

	"switchback/api"
	"switchback/lock"
)

type readers struct {
	what string
	l    locks
	key  string
	want []int
}

func TestP161Readers(t *testing.T) {
	two := locks{span(1, "a", "c"), span(1, "e", "g"), span(2, "b", "f"), span(7, "", "b"), span(most, "e", "")}
	for _, r := range []readers{
		{"of none", nil, "a", nil},
		{"ahead of Low", locks{span(1, "b", "c")}, "a\xff", nil},
		{"Low", locks{span(1, "b", "c")}, "b", []int{1}},
		{"right behind Low", locks{span(1, "b", "c")}, "b\x00", []int{1}},
		{"below High", locks{span(1, "b", "c")}, "b\xff\xff", []int{1}},
		{"High", locks{span(1, "b", "c")}, "c", nil},
		{"above High", locks{span(1, "b", "c")}, "c\x00", nil},
		{"the first key", locks{span(1, "", "c")}, "", []int{1}},
		{"ahead of all else", locks{span(1, "\x00", "c")}, "", nil},
		{"to the end", locks{span(1, "b", "")}, strings.Repeat("\xff", 3000), []int{1}},
		{"ahead of Low, to the end", locks{span(1, "b", "")}, "a", nil},
		{"all", locks{span(1, "", "")}, "x", []int{1}},
		{"one key", locks{span(1, "a", "a\x00")}, "a", []int{1}},
		{"one key, the next", locks{span(1, "a", "a\x00")}, "a\x00", nil},
		{"of five, the first key", two, "", []int{7}},
		{"of five, a", two, "a", []int{1, 7}},
		{"of five, b", two, "b", []int{1, 2}},
		{"of five, c", two, "c", []int{2}},
		{"of five, e", two, "e", []int{1, 2, most}},
		{"of five, f", two, "f", []int{1, most}},
		{"of five, g", two, "g", []int{most}},
		{"each once", locks{span(1, "a", "c"), span(1, "a", "d"), span(1, "b", "x"), span(2, "a", ""), span(2, "b", "c"), span(3, "c", "d")}, "b", []int{1, 2}},
		{"each once, others between", locks{span(1, "a", "c"), span(1, "a\x00", "a\x01"), span(1, "b", "x"), span(2, "b", "c")}, "b", []int{1, 2}},
		{"rise, as locks do", locks{span(2, "z", ""), span(9, "", ""), span(10, "a", "b"), span(11, "a", "b"), span(100, "a", "")}, "a", []int{9, 10, 11, 100}},
	} {
		l, err := lock.Readers(of(r.l...), r.key)
		if err != api.OK || !slices.Equal(l, r.want) {
			t.Errorf("%s: Readers(%s, %.20q) = %d, %d, not %d", r.what, brief(of(r.l...)), r.key, l, err, r.want)
		}
	}
}

func TestP161ReadersAreAllThere(t *testing.T) {
	var l locks
	var want []int
	for txn := 3; txn <= 512+2; txn++ {
		l = append(l, span(txn, "a", "b"))
		want = append(want, txn)
	}
	if got, err := lock.Readers(of(l...), "a"); err != api.OK || !slices.Equal(got, want) {
		t.Error("Readers =", got, err)
	}
}

func TestP161Drop(t *testing.T) {
	three := locks{span(1, "a", "c"), span(1, "e", ""), span(2, "b", "d"), span(3, "a", "c"), span(3, "b", "x"), span(most, "", "")}
	for _, d := range []struct {
		what string
		l    locks
		txn  int
		want locks
	}{
		{"of none", nil, 1, nil},
		{"of one", locks{span(1, "a", "c")}, 1, nil},
		{"of another", locks{span(1, "a", "c")}, 2, locks{span(1, "a", "c")}},
		{"the first", three, 1, three[2:]},
		{"the second", three, 2, joined(three[:2], three[3:])},
		{"the third", three, 3, joined(three[:3], three[5:])},
		{"the last", three, most, three[:5]},
		{"of one that is not there", three, 4, three},
		{"of 0", three, 0, three},
		{"of one below 0", three, -1, three},
		{"of the least", three, math.MinInt, three},
		{"of one beyond all", three, most + 1, three},
		{"of the greatest", three, math.MaxInt, three},
		{"of 512", apiece(4, 512), 4, nil},
		{"of 512, another", apiece(4, 512), 5, apiece(4, 512)},
	} {
		s, err := lock.Drop(of(d.l...), d.txn)
		tells(t, d.what, s, err, d.want)
	}
}

type widened struct {
	what      string
	l         locks
	txn, most int
	want      locks
}

func TestP162Widen(t *testing.T) {
	three := locks{span(2, "a", "b"), span(2, "d", "e"), span(2, "g", "h")}
	one := locks{span(2, "a", "h")}
	for _, w := range []widened{
		{"of none", nil, 2, 1, nil},
		{"one to 1", three[:1], 2, 1, three[:1]},
		{"two to 1", three[:2], 2, 1, locks{span(2, "a", "e")}},
		{"two to 2", three[:2], 2, 2, three[:2]},
		{"three to 1", three, 2, 1, one},
		{"three to 2", three, 2, 2, one},
		{"three to 3", three, 2, 3, three},
		{"three to 4", three, 2, 4, three},
		{"three to the greatest", three, 2, math.MaxInt, three},
		{"from the beginning", locks{span(2, "", "b"), span(2, "d", "e")}, 2, 1, locks{span(2, "", "e")}},
		{"to the end", locks{span(2, "a", "b"), span(2, "d", "")}, 2, 1, locks{span(2, "a", "")}},
		{"to the end, by the first", locks{span(2, "a", ""), span(2, "b", "e")}, 2, 1, locks{span(2, "a", "")}},
		{"to the end, by the second of three", locks{span(2, "a", "b"), span(2, "b", ""), span(2, "b\x00", "e")}, 2, 1, locks{span(2, "a", "")}},
		{"the first goes furthest", locks{span(2, "a", "x"), span(2, "b", "c")}, 2, 1, locks{span(2, "a", "x")}},
		{"the second goes furthest", locks{span(2, "a", "b"), span(2, "b", "x"), span(2, "c", "d")}, 2, 2, locks{span(2, "a", "x")}},
		{"one Low", locks{span(2, "a", "b"), span(2, "a", "c"), span(2, "a", "d")}, 2, 2, locks{span(2, "a", "d")}},
		{"all", locks{span(2, "", ""), span(2, "b", "c")}, 2, 1, locks{span(2, "", "")}},
		{"others stay", joined(locks{span(1, "a", "b"), span(1, "d", "e")}, three, locks{span(3, "a", "b"), span(3, "d", "e")}), 2, 1, joined(locks{span(1, "a", "b"), span(1, "d", "e")}, one, locks{span(3, "a", "b"), span(3, "d", "e")})},
		{"others do not count", joined(locks{span(1, "a", "b"), span(1, "d", "e")}, three, locks{span(3, "a", "b"), span(3, "d", "e")}), 2, 3, joined(locks{span(1, "a", "b"), span(1, "d", "e")}, three, locks{span(3, "a", "b"), span(3, "d", "e")})},
		{"the first Txn", joined(three, locks{span(most, "a", "b")}), 2, 1, joined(one, locks{span(most, "a", "b")})},
		{"the last Txn", joined(locks{span(1, "x", "")}, three), 2, 1, joined(locks{span(1, "x", "")}, one)},
		{"of one that is not there", three, 1, 1, three},
		{"of one that is not there, either", three, 3, 1, three},
		{"of 0", three, 0, 1, three},
		{"of one below 0", three, -2, 1, three},
		{"of the least", three, math.MinInt, 1, three},
		{"of one beyond all", three, most + 1, 1, three},
		{"of the greatest", three, math.MaxInt, 2, three},
		{"512 to 511", apiece(2, 512), 2, 511, locks{span(2, "0000", "1023")}},
		{"512 to 512", apiece(2, 512), 2, 512, apiece(2, 512)},
	} {
		s, err := lock.Widen(of(w.l...), w.txn, w.most)
		tells(t, w.what, s, err, w.want)
		s, err = lock.Widen(s, w.txn, w.most)
		tells(t, w.what+", once more", s, err, w.want)
	}
}

func TestP162WidenRefuses(t *testing.T) {
	for _, s := range []lock.State{{}, of(span(1, "a", "b")), of(span(1, "a", "b"), span(1, "c", "d")), of(apiece(1, 512)...)} {
		for _, txn := range []int{1, 2, 0, math.MinInt, math.MaxInt} {
			for _, n := range []int{0, -1, -most, math.MinInt} {
				next, err := lock.Widen(s, txn, n)
				refused(t, "Widen of "+brief(s), next, err, api.ErrRange)
			}
		}
	}
}
