package ssi_test

import (
	"math"
	"slices"
	"testing"

	"switchback/api"
	"switchback/ssi"
)

// rolled answers numbers below n, one after another, the same ones for one seed.
func rolled(seed uint64) func(n int) int {
	return func(n int) int {
		seed = seed*6364136223846793005 + 1442695040888963407
		return int(seed >> 33 % uint64(n))
	}
}

// rolledState is one that may be.
func rolledState(next func(n int) int) ssi.State {
	size := []int{0, 1, 2, 3, 5, 9, 30, 63, 64}[next(9)]
	low := []int{0, 0, 0, 1 << 20, most - 70}[next(5)]
	s := of(low+70-next(3)*next(10), 0)
	id := []int{0, 0, 1 << 20, most - 200}[next(4)]
	var ends []int
	for range size {
		id += 1 + next(3)*next(2)
		x := txn(id, low+next(s.Clock-low+1), []int{-1, 0, 0}[next(3)], flags[next(4)])
		if next(5) == 0 {
			x.Start = next(x.Start + 1)
		}
		end := low + 1 + next(s.Clock-low)
		if next(2) == 0 && end > x.Start && !slices.Contains(ends, end) {
			x.End = end
			ends = append(ends, end)
		}
		s.Txns = append(s.Txns, x)
	}
	s.Next = id + 1 + next(2)*next(9)
	if next(20) == 0 {
		s.Next = most
	}
	return s
}

// bend changes one thing of a state, mostly so that it may not be.
func bend(next func(n int) int, s ssi.State) ssi.State {
	edges := []int{math.MinInt, -2, -1, 0, 1, s.Clock, s.Clock + 1, most, most + 1, math.MaxInt}
	edge := edges[next(len(edges))]
	if len(s.Txns) == 0 {
		return of(edge, edges[next(len(edges))])
	}
	i, j := next(len(s.Txns)), next(len(s.Txns))
	switch next(9) {
	case 0:
		s.Clock = edge
	case 1:
		s.Next = []int{edge, s.Txns[len(s.Txns)-1].ID, s.Txns[i].ID}[next(3)]
	case 2:
		s.Txns[i].ID = edge
	case 3:
		s.Txns[i].Start = edge
	case 4:
		s.Txns[i].End = edge
	case 5:
		s.Txns[i].End = s.Txns[j].End
	case 6:
		s.Txns[i].End = s.Txns[i].Start
	case 7:
		s.Txns[i], s.Txns[j] = s.Txns[j], s.Txns[i]
	case 8:
		s.Txns = slices.Insert(s.Txns, i, s.Txns[j])
	}
	return s
}

// someID is one that is there, mostly.
func someID(next func(n int) int, s ssi.State) int {
	if len(s.Txns) == 0 || next(9) == 0 {
		return []int{1, 2, s.Next, s.Next - 1, extremes[next(len(extremes))]}[next(5)]
	}
	return s.Txns[next(len(s.Txns))].ID
}

func TestP172RolledStates(t *testing.T) {
	next := rolled(171)
	var begun, committed, aborted [100]int
	var gone [3]int
	for i := range 30000 {
		s := rolledState(next)
		if i%5 == 4 {
			s = bend(next, s)
		}
		a, b := someID(next, s), someID(next, s)
		agrees(t, s, a, b)
		_, _, err := ssi.Begin(s)
		begun[err]++
		_, _, err = ssi.Commit(s, a)
		committed[err]++
		_, err = ssi.Abort(s, a)
		aborted[err]++
		_, l, _ := ssi.Edge(s, a, b)
		gone[len(l)]++
	}
	told := func(what string, counts [100]int, errs ...api.Errno) {
		for _, err := range errs {
			if counts[err] < 300 {
				t.Error(what, "told", err, "just", counts[err], "times")
			}
		}
	}
	told("Begin", begun, api.OK, api.ErrState, api.ErrFull)
	told("Commit", committed, api.OK, api.ErrState, api.ErrNone, api.ErrSerial, api.ErrFull)
	told("Abort", aborted, api.OK, api.ErrState, api.ErrNone)
	for n, count := range gone {
		if count < 300 {
			t.Error("Edge gave up", n, "just", count, "times")
		}
	}
}
