package version_test

import (
	"slices"
	"testing"

	"switchback/api"
	"switchback/version"
)

// rolled answers numbers below n, one after another, the same ones for one seed.
func rolled(seed uint64) func(n int) int {
	return func(n int) int {
		seed = seed*6364136223846793005 + 1442695040888963407
		return int(seed >> 33 % uint64(n))
	}
}

// rolledChain is one that may be, of some length.
func rolledChain(next func(n int) int) chain {
	var l chain
	stamp := []int{20, 300, most}[next(3)]
	for range []int{1, 4, 12, 63, 64, 65}[next(6)] {
		txn := 1 + next(5)
		if next(20) == 0 {
			txn = most - next(2)
		}
		v := was(stamp, txn, octets([]int{0, 1, 2, 3, 7, 4096}[next(30)%6]))
		if next(3) == 0 {
			v = gone(stamp, txn)
		}
		if len(l) == 0 && next(2) == 0 {
			v.Stamp = 0
		}
		l = append(l, v)
		if stamp -= 1 + next(5); stamp < 1 || len(l) == 64 {
			break
		}
	}
	return l
}

// bend changes one thing of a chain, mostly so that it may not be.
func bend(next func(n int) int, l chain) chain {
	i := next(len(l))
	switch next(7) {
	case 0:
		l[i].Stamp = []int{-1, 0, most + 1, 5, 300}[next(5)]
	case 1:
		l[i].Txn = []int{-1, 0, most + 1, 1, most}[next(5)]
	case 2:
		l[i].Gone = !l[i].Gone
	case 3:
		l[i].Value = octets([]int{1, 4096, 4097}[next(3)])
	case 4:
		j := next(len(l))
		l[i], l[j] = l[j], l[i]
	case 5:
		l = slices.Insert(l, i, l[i])
	case 6:
		l = append(l, falling(1+next(40), false)...)
	}
	return l
}

func TestP151RolledChains(t *testing.T) {
	next := rolled(151)
	var wrote, committed [100]int
	for i := range 60000 {
		l := rolledChain(next)
		if i%4 == 3 {
			l = bend(next, l)
		}
		some := l[next(len(l))]
		a := asked{l, some.Stamp + next(3) - 1, 1 + next(6), l[min(1, len(l)-1)].Stamp + next(3) - 1, next(3) == 0, octets([]int{0, 1, 5, 4096, 4097}[next(20)%5])}
		switch next(12) {
		case 0:
			a.txn = []int{-1, 0, most, most + 1}[next(4)]
		case 1:
			a.stamp = []int{0, 1, most, most + 1}[next(4)]
		case 2:
			a.snap = append(extremes, 0, most)[next(6)]
		case 3, 4, 5, 6:
			a.txn = l[0].Txn
		}
		if a.isGone && next(8) > 0 {
			a.value = ""
		}
		agrees(t, a)
		_, err := written(a)
		wrote[err]++
		_, err = version.Commit(a.l, a.txn, a.stamp)
		committed[err]++
	}
	for _, err := range []api.Errno{api.OK, api.ErrState, api.ErrRange, api.ErrLong, api.ErrConflict, api.ErrFull} {
		if wrote[err] < 100 {
			t.Error("Write told", err, "just", wrote[err], "times")
		}
	}
	for _, err := range []api.Errno{api.OK, api.ErrState, api.ErrNone, api.ErrRange} {
		if committed[err] < 100 {
			t.Error("Commit told", err, "just", committed[err], "times")
		}
	}
}
