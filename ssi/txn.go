package ssi

import (
	"slices"

	"switchback/api"
)

const maxID = 1 << 40

// What an End says that is no stamp.
const (
	active  = 0
	givenUp = -1
)

// mayBe tells whether a transaction's stamps may be, none of which is beyond the
// clock. Its ID is asked beside the others'.
func mayBe(t Txn, clock int) bool {
	return t.Start >= 0 && t.Start <= clock && t.End >= givenUp && t.End <= clock && !t.isAheadOf(t.Start)
}

func (t Txn) isCommitted() bool {
	return t.End > 0
}

// isAheadOf tells whether t was committed when a snapshot of that stamp was taken.
func (t Txn) isAheadOf(stamp int) bool {
	return t.isCommitted() && t.End <= stamp
}

func (t Txn) hasBoth() bool {
	return t.In && t.Out
}

// areAtOnce tells whether two transactions are at the same time.
func areAtOnce(t, other Txn) bool {
	return t.End != givenUp && other.End != givenUp && !t.isAheadOf(other.Start) && !other.isAheadOf(t.Start)
}

// place answers where the transaction of that ID stands, or -1.
func place(l []Txn, id int) int {
	return slices.IndexFunc(l, func(t Txn) bool { return t.ID == id })
}

// open answers where the active transaction of that ID stands.
func open(l []Txn, id int) (int, api.Errno) {
	at := place(l, id)
	switch {
	case at < 0:
		return 0, api.ErrNone
	case l[at].End != active:
		return 0, api.ErrState
	}
	return at, api.OK
}

// oldest is the least snapshot of those that are active; whoever begins has one of
// the clock.
func oldest(s State) int {
	stamp := s.Clock
	for _, t := range s.Txns {
		if t.End == active {
			stamp = min(stamp, t.Start)
		}
	}
	return stamp
}

// draw sets the flags of an edge, whose reader and writer stand at those places,
// and answers who is to be given up for it, the reader first.
func draw(l []Txn, both [2]int) []int {
	set := [2]func(){
		func() { l[both[0]].Out = true },
		func() { l[both[1]].In = true },
	}
	doomed := map[int]struct{}{}
	for i, at := range both {
		was := l[at]
		set[i]()
		if !l[at].hasBoth() {
			continue
		}
		if was.isCommitted() {
			// What it told stands: only the other one can still go.
			l[at] = was
			at = both[1-i]
		}
		if l[at].End == active {
			doomed[l[at].ID] = struct{}{}
		}
	}
	var ids []int
	for _, at := range both {
		if _, is := doomed[l[at].ID]; is {
			ids = append(ids, l[at].ID)
		}
	}
	return ids
}

// fresh is the state in memory of its own.
func fresh(s State) State {
	txns := make([]Txn, len(s.Txns))
	copy(txns, s.Txns)
	return State{Txns: txns, Clock: s.Clock, Next: s.Next}
}
