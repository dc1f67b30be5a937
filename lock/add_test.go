package lock_test

import (
	"math"
	"slices"
	"strings"
	"testing"

	"switchback/api"
	"switchback/lock"
)

func TestP161Example(t *testing.T) {
	s, err := lock.Add(lock.State{}, span(1, "a", "c"))
	tells(t, "a to c", s, err, locks{span(1, "a", "c")})
	s, err = lock.Add(s, span(1, "c", "e"))
	tells(t, "c to e", s, err, locks{span(1, "a", "e")})
}

type added struct {
	what string
	l    locks
	x    lock.Lock
	want locks
}

// adds are of txn 1's locks.
func adds() []added {
	return []added{
		{"of none", nil, span(1, "a", "c"), locks{span(1, "a", "c")}},
		{"ahead", locks{span(1, "d", "e")}, span(1, "a", "c"), locks{span(1, "a", "c"), span(1, "d", "e")}},
		{"behind", locks{span(1, "a", "c")}, span(1, "d", "e"), locks{span(1, "a", "c"), span(1, "d", "e")}},
		{"between", locks{span(1, "a", "b"), span(1, "e", "f")}, span(1, "c", "d"), locks{span(1, "a", "b"), span(1, "c", "d"), span(1, "e", "f")}},
		{"one octet off", locks{span(1, "a", "c")}, span(1, "c\x00", "e"), locks{span(1, "a", "c"), span(1, "c\x00", "e")}},
		{"the same", locks{span(1, "a", "c")}, span(1, "a", "c"), locks{span(1, "a", "c")}},
		{"within", locks{span(1, "a", "d")}, span(1, "b", "c"), locks{span(1, "a", "d")}},
		{"within, from Low on", locks{span(1, "a", "d")}, span(1, "a", "c"), locks{span(1, "a", "d")}},
		{"within, up to High", locks{span(1, "a", "d")}, span(1, "b", "d"), locks{span(1, "a", "d")}},
		{"within, to the end", locks{span(1, "a", "")}, span(1, "b", ""), locks{span(1, "a", "")}},
		{"within what has no end", locks{span(1, "a", "")}, span(1, "b", "c"), locks{span(1, "a", "")}},
		{"within all", locks{span(1, "", "")}, span(1, "", "c"), locks{span(1, "", "")}},
		{"around", locks{span(1, "b", "c")}, span(1, "a", "d"), locks{span(1, "a", "d")}},
		{"around, from Low on", locks{span(1, "a", "c")}, span(1, "a", "d"), locks{span(1, "a", "d")}},
		{"around, up to High", locks{span(1, "b", "d")}, span(1, "a", "d"), locks{span(1, "a", "d")}},
		{"around what has no end", locks{span(1, "b", "")}, span(1, "a", ""), locks{span(1, "a", "")}},
		{"around, to the end", locks{span(1, "b", "c")}, span(1, "b", ""), locks{span(1, "b", "")}},
		{"all", locks{span(1, "b", "c"), span(1, "d", "")}, span(1, "", ""), locks{span(1, "", "")}},
		{"over High", locks{span(1, "a", "c")}, span(1, "b", "d"), locks{span(1, "a", "d")}},
		{"over High, to the end", locks{span(1, "a", "c")}, span(1, "b", ""), locks{span(1, "a", "")}},
		{"over Low", locks{span(1, "b", "d")}, span(1, "a", "c"), locks{span(1, "a", "d")}},
		{"over Low of what has no end", locks{span(1, "b", "")}, span(1, "a", "c"), locks{span(1, "a", "")}},
		{"at High", locks{span(1, "a", "c")}, span(1, "c", "e"), locks{span(1, "a", "e")}},
		{"at High, to the end", locks{span(1, "a", "c")}, span(1, "c", ""), locks{span(1, "a", "")}},
		{"at Low", locks{span(1, "c", "e")}, span(1, "a", "c"), locks{span(1, "a", "e")}},
		{"at Low of what has no end", locks{span(1, "c", "")}, span(1, "", "c"), locks{span(1, "", "")}},
		{"the end is no key", locks{span(1, "", "b")}, span(1, "c", ""), locks{span(1, "", "b"), span(1, "c", "")}},
		{"the end is not the beginning", locks{span(1, "c", "")}, span(1, "", "b"), locks{span(1, "", "b"), span(1, "c", "")}},
		{"two, over both", locks{span(1, "a", "c"), span(1, "e", "g")}, span(1, "b", "f"), locks{span(1, "a", "g")}},
		{"two, at both", locks{span(1, "a", "c"), span(1, "e", "g")}, span(1, "c", "e"), locks{span(1, "a", "g")}},
		{"two, at the first", locks{span(1, "a", "c"), span(1, "e", "g")}, span(1, "c", "d"), locks{span(1, "a", "d"), span(1, "e", "g")}},
		{"two, at the second", locks{span(1, "a", "c"), span(1, "e", "g")}, span(1, "d", "e"), locks{span(1, "a", "c"), span(1, "d", "g")}},
		{"three, the last two", locks{span(1, "a", "b"), span(1, "d", "e"), span(1, "g", "h")}, span(1, "c", "g"), locks{span(1, "a", "b"), span(1, "c", "h")}},
		{"three, all", locks{span(1, "a", "b"), span(1, "d", "e"), span(1, "g", "h")}, span(1, "", "g"), locks{span(1, "", "h")}},
		{"one key, then the next", locks{span(1, "a", "a\x00")}, span(1, "a\x00", "a\x00\x00"), locks{span(1, "a", "a\x00\x00")}},
		{"octets above letters", locks{span(1, "\x7f", "\x80")}, span(1, "\x80", "\xff"), locks{span(1, "\x7f", "\xff")}},
		{"no text at all", locks{span(1, "\xff", "\xff\xff")}, span(1, "\xff\xff", ""), locks{span(1, "\xff", "")}},
	}
}

func TestP161Add(t *testing.T) {
	for _, a := range adds() {
		s, err := lock.Add(of(a.l...), a.x)
		tells(t, a.what, s, err, a.want)
		s, err = lock.Add(s, a.x)
		tells(t, a.what+", once more", s, err, a.want)
	}
}

// Locks of others stay, also where they are alike.
func TestP161AddIsOfOneTxn(t *testing.T) {
	own := func(l locks) locks {
		mine := locks{}
		for _, one := range l {
			one.Txn = 5
			mine = append(mine, one)
		}
		return mine
	}
	for _, a := range adds() {
		low, high := a.x, a.x
		low.Txn, high.Txn = 4, 6
		for _, ahead := range []locks{nil, {low}, {span(1, "", ""), low}, {span(4, "", "")}} {
			for _, behind := range []locks{nil, {high}, {high, span(most, "", "")}, {span(6, "", "")}} {
				x := a.x
				x.Txn = 5
				s, err := lock.Add(of(joined(ahead, own(a.l), behind)...), x)
				tells(t, a.what+" beside others", s, err, joined(ahead, own(a.want), behind))
			}
		}
	}
}

func joined(all ...locks) locks {
	var l locks
	for _, one := range all {
		l = append(l, one...)
	}
	return l
}

// Of a state that no call made: what touches x goes, and what touches that alone stays; and just one lock that has all of x is enough.
func TestP161AddToWhatNoCallMade(t *testing.T) {
	for _, a := range []added{
		{"touched by what is touched", locks{span(1, "a", "c"), span(1, "c", "e")}, span(1, "d", "f"), locks{span(1, "a", "c"), span(1, "c", "f")}},
		{"in common with what is touched", locks{span(1, "a", "d"), span(1, "c", "e")}, span(1, "e", "f"), locks{span(1, "a", "d"), span(1, "c", "f")}},
		{"behind what is touched", locks{span(1, "b", "c"), span(1, "c", "e")}, span(1, "a", "b"), locks{span(1, "a", "c"), span(1, "c", "e")}},
		{"within the first", locks{span(1, "a", "e"), span(1, "b", "c")}, span(1, "b", "d"), locks{span(1, "a", "e"), span(1, "b", "c")}},
		{"within the second", locks{span(1, "a", "c"), span(1, "b", "e")}, span(1, "b", "d"), locks{span(1, "a", "c"), span(1, "b", "e")}},
		{"within the second to the end", locks{span(1, "a", "c"), span(1, "a", "")}, span(1, "b", "d"), locks{span(1, "a", "c"), span(1, "a", "")}},
		{"within the last", locks{span(1, "a", "b"), span(1, "a", "c"), span(1, "a", "d")}, span(1, "a", "d"), locks{span(1, "a", "b"), span(1, "a", "c"), span(1, "a", "d")}},
		{"within both, but in none", locks{span(1, "a", "c"), span(1, "c", "e")}, span(1, "b", "d"), locks{span(1, "a", "e")}},
		{"the first goes further", locks{span(1, "a", ""), span(1, "b", "c")}, span(1, "", "b"), locks{span(1, "", "")}},
		{"the first goes further, not to the end", locks{span(1, "b", "x"), span(1, "c", "d")}, span(1, "a", "c"), locks{span(1, "a", "x")}},
		{"the second goes further", locks{span(1, "b", "c"), span(1, "b", "x")}, span(1, "a", "b"), locks{span(1, "a", "x")}},
		{"the second has no end", locks{span(1, "b", "c"), span(1, "b", "")}, span(1, "a", "b"), locks{span(1, "a", "")}},
		{"behind one that begins there, too", locks{span(1, "a", "b"), span(1, "a", "d")}, span(1, "c", "e"), locks{span(1, "a", "b"), span(1, "a", "e")}},
		{"ahead of one that begins there, too", locks{span(1, "a", "c"), span(1, "b", "x"), span(1, "c", "e")}, span(1, "", "b"), locks{span(1, "", "x"), span(1, "c", "e")}},
	} {
		s, err := lock.Add(of(a.l...), a.x)
		tells(t, a.what, s, err, a.want)
	}
}

// Wrong locks, of a state with room, and of one without.
func TestP161AddRefusesWhatMayNotBe(t *testing.T) {
	wrong := locks{
		{}, span(0, "a", "c"), span(-1, "a", "c"), span(math.MinInt, "a", "c"), span(most+1, "a", "c"), span(math.MaxInt, "a", "c"),
		span(1, "a", "a"), span(1, "b", "a"), span(1, "ab", "a"), span(1, "\x80", "\x7f"), span(0, "", ""), span(0, "b", "a"),
		span(1, "0001", "0000"), span(1, "0000", "0000"),
	}
	for _, s := range []lock.State{{}, of(span(1, "", "")), of(apiece(1, 512)...)} {
		for _, x := range wrong {
			next, err := lock.Add(s, x)
			refused(t, "Add of "+brief(of(x)), next, err, api.ErrArg)
		}
	}
	for _, x := range (locks{span(1, "", ""), span(most, "", "c"), span(most, strings.Repeat("k", 3000), "")}) {
		s, err := lock.Add(lock.State{}, x)
		tells(t, "Add of what may be", s, err, locks{x})
	}
}

// One lock more than 512 is refused; what is locked already, or touches what is, asks for no room.
func TestP161AddFull(t *testing.T) {
	full := apiece(2, 512)
	for _, x := range (locks{span(1, "0000", "0001"), span(3, "0000", "0001"), span(2, "a", "b"), span(2, "", "/"), span(2, "0001\x00", "0001\x00\x00")}) {
		next, err := lock.Add(of(full...), x)
		refused(t, "Add of "+brief(of(x)), next, err, api.ErrFull)
		next, err = lock.Add(of(full[:511]...), x)
		if err != api.OK || len(next.Locks) != 512 {
			t.Errorf("Add of %s to 511: %d locks, %d", brief(of(x)), len(next.Locks), err)
		}
	}
	for _, a := range []added{
		{"the first one", full, full[0], full},
		{"the last one", full, full[511], full},
		{"within the first one", full, span(2, "00000", "00001"), full},
		{"at the second one", full, span(2, "0001\x00", "0002"), joined(full[:1], locks{span(2, "0001\x00", "0003")}, full[2:])},
		{"over the first one", full, span(2, "0000", "00011"), joined(locks{span(2, "0000", "00011")}, full[1:])},
		{"between the first two", full, span(2, "0001", "0002"), joined(locks{span(2, "0000", "0003")}, full[2:])},
		{"over all", full, span(2, "", ""), locks{span(2, "", "")}},
	} {
		next, err := lock.Add(of(a.l...), a.x)
		tells(t, a.what, next, err, a.want)
	}
}

type reading struct {
	what string
	l    locks
	txn  int
	key  string
	want locks
}

func TestP161Read(t *testing.T) {
	for _, r := range []reading{
		{"of none", nil, 1, "a", locks{span(1, "a", "a\x00")}},
		{"of the first key", nil, 1, "", locks{span(1, "", "\x00")}},
		{"of the highest octets", nil, most, "\xff\xff", locks{span(most, "\xff\xff", "\xff\xff\x00")}},
		{"of a 00", nil, 1, "a\x00", locks{span(1, "a\x00", "a\x00\x00")}},
		{"of a long one", nil, 1, strings.Repeat("k", 3000), locks{span(1, strings.Repeat("k", 3000), strings.Repeat("k", 3000)+"\x00")}},
		{"once more", locks{span(1, "a", "a\x00")}, 1, "a", locks{span(1, "a", "a\x00")}},
		{"within", locks{span(1, "a", "c")}, 1, "b", locks{span(1, "a", "c")}},
		{"of Low", locks{span(1, "a", "c")}, 1, "a", locks{span(1, "a", "c")}},
		{"of High", locks{span(1, "a", "c")}, 1, "c", locks{span(1, "a", "c\x00")}},
		{"the one ahead of Low", locks{span(1, "a\x00", "c")}, 1, "a", locks{span(1, "a", "c")}},
		{"not quite ahead of Low", locks{span(1, "a\x00\x00", "c")}, 1, "a", locks{span(1, "a", "a\x00"), span(1, "a\x00\x00", "c")}},
		{"between", locks{span(1, "a", "b"), span(1, "d", "e")}, 1, "c", locks{span(1, "a", "b"), span(1, "c", "c\x00"), span(1, "d", "e")}},
		{"another one's", locks{span(1, "a", "c")}, 2, "b", locks{span(1, "a", "c"), span(2, "b", "b\x00")}},
		{"ahead of another one's", locks{span(2, "a", "c")}, 1, "b", locks{span(1, "b", "b\x00"), span(2, "a", "c")}},
		{"to the end", locks{span(1, "b", "")}, 1, "zzz", locks{span(1, "b", "")}},
	} {
		s, err := lock.Read(of(r.l...), r.txn, r.key)
		tells(t, r.what, s, err, r.want)
		x, err := lock.Add(of(r.l...), span(r.txn, r.key, r.key+"\x00"))
		tells(t, r.what+": Add", x, err, r.want)
		l, err := lock.Readers(s, r.key)
		if err != api.OK || !slices.Contains(l, r.txn) {
			t.Errorf("%s: Readers = %d, %d", r.what, l, err)
		}
	}
}

func TestP161ReadRefuses(t *testing.T) {
	full := of(apiece(1, 512)...)
	for _, txn := range []int{0, -1, math.MinInt, most + 1, math.MaxInt} {
		for _, s := range []lock.State{{}, of(span(1, "", "")), full} {
			next, err := lock.Read(s, txn, "a")
			refused(t, "Read", next, err, api.ErrArg)
		}
	}
	next, err := lock.Read(full, 1, "a")
	refused(t, "Read of a full one", next, err, api.ErrFull)
	next, err = lock.Read(full, 2, "0000")
	refused(t, "Read of a full one", next, err, api.ErrFull)
	next, err = lock.Read(full, 1, "0000")
	tells(t, "Read of what is locked", next, err, full.Locks)
	next, err = lock.Read(full, 1, "0001")
	tells(t, "Read at an end", next, err, joined(locks{span(1, "0000", "0001\x00")}, full.Locks[1:]))
}
