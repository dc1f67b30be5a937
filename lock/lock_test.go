package lock_test

import (
	"fmt"
	"math"
	"slices"
	"strings"
	"testing"

	"switchback/api"
	"switchback/lock"
)

type locks = []lock.Lock

const most = 1 << 40

func span(txn int, low, high string) lock.Lock {
	return lock.Lock{Txn: txn, Low: low, High: high}
}

func of(l ...lock.Lock) lock.State { return lock.State{Locks: l} }

// apiece is n locks of txn, none of which touches another.
func apiece(txn, n int) locks {
	var l locks
	for i := range n {
		l = append(l, span(txn, fmt.Sprintf("%04d", 2*i), fmt.Sprintf("%04d", 2*i+1)))
	}
	return l
}

// brief shows a state: 1:a-c is what 1 has locked from a on, below c; 1:a- to the end.
func brief(s lock.State) string {
	var parts []string
	for _, l := range s.Locks {
		parts = append(parts, fmt.Sprintf("%d:%.20q-%.20q", l.Txn, l.Low, l.High))
	}
	if len(parts) > 12 {
		parts = append(parts[:12], fmt.Sprint("... of ", len(s.Locks)))
	}
	return "[" + strings.Join(parts, " ") + "]"
}

func tells(t *testing.T, what string, s lock.State, err api.Errno, want locks) {
	t.Helper()
	if err != api.OK || !slices.Equal(s.Locks, want) {
		t.Errorf("%s: %s, %d, not %s", what, brief(s), err, brief(of(want...)))
	}
	if lock.Check(s) != api.OK {
		t.Errorf("%s: %s may not be", what, brief(s))
	}
}

func refused(t *testing.T, what string, s lock.State, err, want api.Errno) {
	t.Helper()
	if err != want || len(s.Locks) > 0 {
		t.Errorf("%s: %s, %d, not %d", what, brief(s), err, want)
	}
}

type checked struct {
	what string
	l    locks
	err  api.Errno
}

func checks() []checked {
	no, yes := api.ErrState, api.OK
	long := strings.Repeat("k", 5000)
	return []checked{
		{"nil", nil, yes},
		{"empty", locks{}, yes},
		{"one", locks{span(1, "a", "c")}, yes},
		{"512", apiece(1, 512), yes},
		{"513", apiece(1, 513), no},
		{"512 of two", append(apiece(1, 511), span(2, "a", "b")), yes},
		{"513 of two", append(apiece(1, 512), span(2, "a", "b")), no},
		{"Txn 0", locks{span(0, "a", "c")}, no},
		{"Txn -1", locks{span(-1, "a", "c")}, no},
		{"Txn least", locks{span(math.MinInt, "a", "c")}, no},
		{"Txn 0 ahead of another", locks{span(0, "a", "c"), span(1, "a", "c")}, no},
		{"Txn 2^40 - 1", locks{span(most-1, "a", "c")}, yes},
		{"Txn 2^40", locks{span(most, "a", "c")}, yes},
		{"Txn 2^40 + 1", locks{span(most+1, "a", "c")}, no},
		{"Txn greatest", locks{span(1, "a", "c"), span(math.MaxInt, "a", "c")}, no},
		{"from the beginning", locks{span(1, "", "c")}, yes},
		{"to the end", locks{span(1, "a", "")}, yes},
		{"all", locks{span(1, "", "")}, yes},
		{"no key", locks{span(1, "a", "a")}, no},
		{"High below Low", locks{span(1, "b", "a")}, no},
		{"High a piece of Low", locks{span(1, "ab", "a")}, no},
		{"one key", locks{span(1, "a", "a\x00")}, yes},
		{"the first key", locks{span(1, "", "\x00")}, yes},
		{"octets, not letters", locks{span(1, "\x7f", "\x80")}, yes},
		{"octets that fall", locks{span(1, "\x80", "\x7f")}, no},
		{"no text", locks{span(1, "\xff", "\xff\xfe")}, yes},
		{"long", locks{span(1, long, long+"k")}, yes},
		{"no key at the end", locks{span(1, "a", "c"), span(1, "d", "d")}, no},
		{"Txns rise", locks{span(1, "a", "c"), span(2, "a", "c")}, yes},
		{"Txns rise, Lows fall", locks{span(1, "b", "c"), span(2, "a", "c")}, yes},
		{"Txns rise, Highs fall", locks{span(1, "a", ""), span(2, "a", "c")}, yes},
		{"Txns rise far", locks{span(2, "a", "c"), span(10, "a", "c"), span(most, "a", "c")}, yes},
		{"Txns fall", locks{span(2, "a", "c"), span(1, "a", "c")}, no},
		{"Txns fall, Lows rise", locks{span(2, "a", "c"), span(1, "d", "e")}, no},
		{"Txns fall at the end", locks{span(1, "a", "c"), span(3, "a", "c"), span(2, "a", "c")}, no},
		{"Lows rise", locks{span(1, "a", "c"), span(1, "d", "e")}, yes},
		{"Lows rise, Highs fall", locks{span(1, "a", "e"), span(1, "b", "c")}, yes},
		{"Lows rise, Highs alike", locks{span(1, "a", "c"), span(1, "b", "c")}, yes},
		{"Lows rise, Highs none", locks{span(1, "a", ""), span(1, "b", "")}, yes},
		{"Lows rise behind none", locks{span(1, "a", ""), span(1, "b", "c")}, yes},
		{"Lows touch", locks{span(1, "a", "c"), span(1, "c", "e")}, yes},
		{"Lows fall", locks{span(1, "d", "e"), span(1, "a", "c")}, no},
		{"Lows fall, Highs rise", locks{span(1, "b", "c"), span(1, "a", "d")}, no},
		{"Lows fall to none", locks{span(1, "a", "b"), span(1, "", "c")}, no},
		{"Lows rise from none", locks{span(1, "", "b"), span(1, "a", "b")}, yes},
		{"Lows fall at the end", locks{span(1, "a", "b"), span(1, "d", "e"), span(1, "c", "f")}, no},
		{"Highs rise", locks{span(1, "a", "b"), span(1, "a", "c")}, yes},
		{"Highs fall", locks{span(1, "a", "c"), span(1, "a", "b")}, no},
		{"High none last", locks{span(1, "a", "c"), span(1, "a", "")}, yes},
		{"High none ahead", locks{span(1, "a", ""), span(1, "a", "c")}, no},
		{"High none behind the highest octets", locks{span(1, "a", "\xff\xff"), span(1, "a", "")}, yes},
		{"alike", locks{span(1, "a", "c"), span(1, "a", "c")}, no},
		{"alike to the end", locks{span(1, "a", ""), span(1, "a", "")}, no},
		{"all, alike", locks{span(1, "", ""), span(1, "", "")}, no},
		{"alike at the end", locks{span(1, "a", "b"), span(1, "b", "c"), span(1, "b", "c")}, no},
	}
}

func TestP161Check(t *testing.T) {
	for _, c := range checks() {
		if err := lock.Check(of(c.l...)); err != c.err {
			t.Errorf("%s: Check(%s) = %d, not %d", c.what, brief(of(c.l...)), err, c.err)
		}
	}
}

// Check's error goes ahead of all others.
func TestP161AllOthersFirstCheck(t *testing.T) {
	for _, c := range checks() {
		if c.err == api.OK {
			continue
		}
		s := of(c.l...)
		for _, x := range (locks{span(9, "x", "y"), span(0, "b", "a"), span(1, "a", "c")}) {
			next, err := lock.Add(s, x)
			refused(t, c.what+": Add", next, err, api.ErrState)
		}
		for _, txn := range []int{1, 9, 0, math.MaxInt} {
			next, err := lock.Read(s, txn, "x")
			refused(t, c.what+": Read", next, err, api.ErrState)
			next, err = lock.Drop(s, txn)
			refused(t, c.what+": Drop", next, err, api.ErrState)
			for _, n := range []int{1, 0, -1, 600} {
				next, err = lock.Widen(s, txn, n)
				refused(t, c.what+": Widen", next, err, api.ErrState)
			}
		}
		for _, key := range []string{"", "a", "b", "0000"} {
			if l, err := lock.Readers(s, key); len(l) > 0 || err != api.ErrState {
				t.Errorf("%s: Readers = %d, %d", c.what, l, err)
			}
		}
	}
}
