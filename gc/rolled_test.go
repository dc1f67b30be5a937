package gc_test

import (
	"fmt"
	"slices"
	"testing"

	"switchback/api"
	"switchback/gc"
	"switchback/version"
)

// rolled answers numbers below n, one after another, the same ones for one seed.
func rolled(seed uint64) func(n int) int {
	return func(n int) int {
		seed = seed*6364136223846793005 + 1442695040888963407
		return int(seed >> 33 % uint64(n))
	}
}

// rolledChain is one that may be, of some length.
func rolledChain(next func(n int) int) chain {
	var l chain
	stamp := []int{9, 20, 200, most}[next(8)%4]
	for range []int{1, 1, 2, 3, 5, 64}[next(24)%6] {
		v := was(stamp, 1+next(5), octets([]int{0, 1, 2, 3, 7}[next(5)]))
		if next(3) == 0 {
			v = gone(stamp, 1+next(5))
		}
		if len(l) == 0 && next(3) == 0 {
			v.Stamp = 0
		}
		l = append(l, v)
		if stamp -= 1 + next(4); stamp < 1 {
			break
		}
	}
	return l
}

// rolledChains are some that may be.
func rolledChains(next func(n int) int) gc.Chains {
	var c gc.Chains
	for range []int{0, 1, 2, 3, 5, 9}[next(6)] {
		key := octets(next(3)) + string(rune('a'+next(5)))
		if next(8) == 0 {
			key = octets(next(4))
		}
		c = with(c, key, rolledChain(next)...)
	}
	return c
}

// bend changes one thing of chains, mostly so that they may not be.
func bend(next func(n int) int, c gc.Chains) gc.Chains {
	if len(c.Keys) == 0 {
		return gc.Chains{Lists: []chain{rolledChain(next)}}
	}
	i, j := next(len(c.Keys)), next(len(c.Keys))
	switch next(8) {
	case 0:
		c.Keys = slices.Delete(c.Keys, i, i+1)
	case 1:
		c.Lists = slices.Delete(c.Lists, i, i+1)
	case 2:
		c.Keys[i], c.Keys[j] = c.Keys[j], c.Keys[i]
	case 3:
		c.Keys[i] = c.Keys[j]
	case 4:
		c.Lists[i] = nil
	case 5:
		c.Lists[i] = append(c.Lists[i], rolledChain(next)...)
	case 6:
		c.Keys = append(c.Keys, c.Keys[i])
		c.Lists = append(c.Lists, c.Lists[j])
	case 7:
		l := slices.Clone(c.Lists[i])
		at := next(len(l))
		bad := []version.Version{{}, was(-1, 1, "v"), was(1, 0, "v"), was(most+1, 1, "v"), {Stamp: 1, Txn: 1, Gone: true, Value: "v"}, was(1, 1, octets(4097)), was(1, most+1, "")}
		l[at] = bad[next(len(bad))]
		c.Lists[i] = l
	}
	return c
}

// someKey is one that is there, mostly.
func someKey(next func(n int) int, c gc.Chains) string {
	if len(c.Keys) == 0 || next(3) == 0 {
		return octets(next(3)) + string(rune('a'+next(6)))
	}
	return c.Keys[next(len(c.Keys))]
}

// someVersion is one that is there, or none.
func someVersion(next func(n int) int, c gc.Chains) version.Version {
	if len(c.Lists) == 0 {
		return version.Version{}
	}
	l := c.Lists[next(len(c.Lists))]
	if len(l) == 0 {
		return version.Version{}
	}
	return l[next(len(l))]
}

// someStamp is one that is there, or next to it.
func someStamp(next func(n int) int, c gc.Chains) int {
	if next(20) == 0 {
		return append(extremes, 0, most, most+1)[next(7)]
	}
	return someVersion(next, c).Stamp + next(3) - 1
}

func someTxn(next func(n int) int, c gc.Chains) int {
	switch next(10) {
	case 0:
		return append(extremes, 0, most, most+1)[next(7)]
	case 1, 2, 3:
		return 1 + next(6)
	}
	return someVersion(next, c).Txn
}

func someAsk(next func(n int) int, c gc.Chains) asked {
	a := asked{c: c, key: someKey(next, c), snap: someStamp(next, c), txn: someTxn(next, c), isGone: next(3) == 0}
	switch next(3) {
	case 0:
		a.to = someKey(next, c)
	case 1:
		a.to = a.key + "\x00"
	}
	a.stamp = []int{1, 8, 21, 201, most, someStamp(next, c)}[next(6)]
	if next(30) == 0 {
		a.key = octets(1023 + next(3))
	}
	if !a.isGone || next(9) == 0 {
		a.value = octets([]int{0, 1, 2, 4096, 4097}[next(25)%5])
	}
	return a
}

func TestP181RolledChains(t *testing.T) {
	next := rolled(18)
	var put, committed [100]int
	went := [3]int{}
	for i := range 40000 {
		c := rolledChains(next)
		if i%5 == 4 {
			c = bend(next, c)
		}
		a := someAsk(next, c)
		agrees(t, a)
		_, err := gc.Put(c, a.key, a.snap, a.txn, a.isGone, a.value)
		put[err]++
		_, err = gc.Commit(c, a.txn, a.stamp)
		committed[err]++
		_, n, _ := gc.Sweep(c, a.snap)
		went[min(n, 2)]++
	}
	for _, err := range []api.Errno{api.OK, api.ErrState, api.ErrName, api.ErrRange, api.ErrLong, api.ErrConflict, api.ErrFull} {
		if put[err] < 100 {
			t.Error("Put told", err, "just", put[err], "times")
		}
	}
	for _, err := range []api.Errno{api.OK, api.ErrState, api.ErrRange} {
		if committed[err] < 300 {
			t.Error("Commit told", err, "just", committed[err], "times")
		}
	}
	if min(went[1], went[2]) < 300 {
		t.Error("Sweep took too few:", went)
	}
}

// At the end of the room, too: up to 2048 keys, and some beyond.
func TestP181RolledFullChains(t *testing.T) {
	next := rolled(2048)
	for i := range 12 {
		c := many(2047 + i%3)
		for range 100 {
			c.Lists[next(len(c.Lists))] = rolledChain(next)
		}
		a := someAsk(next, c)
		if i > 5 {
			a.key = fmt.Sprintf("%05d", next(4100))
		}
		if i%2 == 0 {
			a.txn, a.snap, a.isGone, a.value = 7, most, false, "v"
		}
		agrees(t, a)
	}
}
