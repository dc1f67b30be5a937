package lock_test

import (
	"math"
	"math/bits"
	"slices"
	"testing"

	"switchback/api"
	"switchback/lock"
)

// rolled answers numbers below n, one after another, the same ones for one seed.
func rolled(seed uint64) func(n int) int {
	return func(n int) int {
		seed = seed*6364136223846793005 + 1442695040888963407
		return int(seed >> 33 % uint64(n))
	}
}

// rolledLine is one of some cuts, at most 64: keys, and what is right behind each.
func rolledLine(next func(n int) int) line {
	w := line{"", "\x00"}
	for size := []int{4, 8, 30, 64, 64}[next(5)]; len(w) < size; {
		key := make([]byte, 1+next(3))
		for i := range key {
			key[i] = []byte{0, 1, 'a', 'b', 'c', 127, 128, 254, 255}[next(9)]
		}
		if k := string(key); !slices.Contains(w, k) && !slices.Contains(w, k+"\x00") {
			w = append(w, k, k+"\x00")
		}
	}
	slices.Sort(w)
	return w
}

// rolledLock is one that may be.
func (w line) rolledLock(next func(n int) int, txn int) lock.Lock {
	low := next(len(w))
	high := low + 1 + next(len(w)-low)
	if next(3) > 0 {
		high = min(low+1+next(2), len(w))
	}
	return w.lock(txn, (1<<high-1)&^(1<<low-1))
}

var txns = []int{1, 2, 3, 5, 9, 10, 11, 40, 77, most - 1, most}

// rolledLocks are some of a state that may be, in order.
func (w line) rolledLocks(next func(n int) int) locks {
	size := []int{0, 1, 3, 8, 30, 80, 511, 512}[next(8)]
	b := book{w, map[int][]uint64{}}
	count := 0
	// Where few are between the cuts, not so many can be.
	for try := 0; count < size && try < 3*size; try++ {
		txn := txns[next(len(txns)-4)]
		set := w.cells(w.rolledLock(next, txn))
		if !slices.Contains(b.sets[txn], set) {
			b.sets[txn] = append(b.sets[txn], set)
			count++
		}
	}
	return b.locks()
}

// bend changes one thing of a list of locks, mostly so that it may not be.
func (w line) bend(next func(n int) int, l locks) locks {
	if len(l) == 0 {
		return locks{span(0, "", w[1])}
	}
	i, j := next(len(l)), next(len(l))
	switch next(6) {
	case 0:
		l[i].Txn = []int{-1, 0, most + 1, math.MinInt, math.MaxInt, 1, most}[next(7)]
	case 1:
		l[i].Low = w[next(len(w))]
	case 2:
		l[i].High = w[next(len(w))]
	case 3:
		l[i], l[j] = l[j], l[i]
	case 4:
		l = slices.Insert(l, i, l[i])
	case 5:
		l = append(l, w.rolledLock(next, most))
	}
	return l
}

// some is a lock that may be, or not: often one that is there, a bit greater or smaller, or right beside it.
func (w line) some(next func(n int) int, l locks) lock.Lock {
	txn := txns[next(len(txns))]
	if next(9) == 0 {
		txn = []int{-1, 0, 4, most + 1, math.MinInt, math.MaxInt}[next(6)]
	}
	if len(l) == 0 || next(2) == 0 {
		return w.rolledLock(next, txn)
	}
	x := l[next(len(l))]
	if next(4) == 0 {
		x.Txn = txn
	}
	set := w.cells(x)
	if set == 0 {
		return x
	}
	low, high := bits.TrailingZeros64(set), bits.Len64(set)
	switch next(6) {
	case 0:
		x.High = x.Low
		x.Low = w[max(0, low-1-next(3))]
	case 1:
		x.Low = x.High
		x.High = w[(high+1+next(3))%len(w)]
	case 2:
		x.Low = w[min(len(w)-1, low+next(2))]
		x.High = ""
	case 3:
		x.High = w[(high+1)%len(w)]
	case 4:
		x.Low = w[max(0, low-1)]
	}
	return x
}

func TestP161RolledStates(t *testing.T) {
	next := rolled(161)
	var added, wider [100]int
	for i := range 8000 {
		w := rolledLine(next)
		l := w.rolledLocks(next)
		if i%5 == 4 {
			l = w.bend(next, l)
		}
		a := asked{l, w.some(next, l), w.keys()[next(len(w.keys()))], []int{-1, 0, 1, 2, 3, 40, 512, math.MaxInt}[next(8)]}
		w.agrees(t, a)
		_, err := lock.Add(of(l...), a.x)
		added[err]++
		_, err = lock.Widen(of(l...), a.x.Txn, a.most)
		wider[err]++
	}
	for _, err := range []api.Errno{api.OK, api.ErrState, api.ErrArg, api.ErrFull} {
		if added[err] < 100 {
			t.Error("Add told", err, "just", added[err], "times")
		}
	}
	for _, err := range []api.Errno{api.OK, api.ErrState, api.ErrRange} {
		if wider[err] < 300 {
			t.Error("Widen told", err, "just", wider[err], "times")
		}
	}
}

// Readers of keys that are no end of any lock.
func TestP161ReadersOfAllKeys(t *testing.T) {
	next := rolled(162)
	for range 3000 {
		w := rolledLine(next)
		l := w.rolledLocks(next)
		b, _ := w.read(l)
		for range 8 {
			key := w[next(len(w))] + []string{"", "\x00", "\x00\x00", "\x01", "z", "\xff\xff"}[next(6)]
			if got, err := lock.Readers(of(l...), key); err != api.OK || !slices.Equal(got, b.readers(key)) {
				t.Fatalf("Readers(%s, %q) = %d, %d, not %d", brief(of(l...)), key, got, err, b.readers(key))
			}
		}
	}
}
