package ssi_test

import (
	"slices"
	"testing"

	"switchback/api"
	"switchback/ssi"
)

// mixed is a state of all kinds of transactions.
func mixed() ssi.State {
	return of(9, 30,
		txn(2, 1, 0, ""), txn(3, 1, 3, "I"), txn(4, 2, 0, "I"), txn(5, 2, -1, ""), txn(6, 3, 0, "O"),
		txn(8, 4, 0, "IO"), txn(9, 4, -1, "IO"), txn(10, 5, 7, "O"), txn(11, 5, 0, ""), txn(12, 7, 8, "IO"))
}

// with is a state in which the one of that ID has another End.
func with(s ssi.State, id, end int) ssi.State {
	s.Txns = slices.Clone(s.Txns)
	for i := range s.Txns {
		if s.Txns[i].ID == id {
			s.Txns[i].End = end
		}
	}
	return s
}

func TestP172Commit(t *testing.T) {
	for _, id := range []int{2, 4, 6, 11} {
		s, stamp, err := ssi.Commit(mixed(), id)
		want := with(mixed(), id, 10)
		want.Clock = 10
		tells(t, "Commit", s, err, want)
		numbers(t, "Commit", []int{stamp}, []int{10})
	}
	s, stamp, err := ssi.Commit(of(0, 2, txn(1, 0, 0, "")), 1)
	tells(t, "the first one", s, err, of(1, 2, txn(1, 0, 1, "")))
	numbers(t, "the first one", []int{stamp}, []int{1})
	s, stamp, err = ssi.Commit(of(most-1, 2, txn(1, most-1, 0, "O")), 1)
	tells(t, "the last one", s, err, of(most, 2, txn(1, most-1, most, "O")))
	numbers(t, "the last one", []int{stamp}, []int{most})
	s, stamp, err = ssi.Commit(of(0, 65, crowd(64)...), 64)
	tells(t, "of 64", s, err, of(1, 65, append(crowd(63), txn(64, 0, 1, ""))...))
	numbers(t, "of 64", []int{stamp}, []int{1})
}

func TestP172CommitRefused(t *testing.T) {
	full := mixed()
	full.Clock = most
	ask := func(what string, s ssi.State, id int, want api.Errno) {
		t.Helper()
		next, stamp, err := ssi.Commit(s, id)
		refused(t, what, next, err, want)
		numbers(t, what, []int{stamp}, []int{0})
	}
	for _, s := range []ssi.State{mixed(), full} {
		for _, id := range append([]int{1, 7, 13, 29, 30, most}, extremes...) {
			ask("who is not there", s, id, api.ErrNone)
			ask("of none", of(s.Clock, 1), id, api.ErrNone)
		}
		ask("committed", s, 3, api.ErrState)
		ask("committed", s, 10, api.ErrState)
		ask("committed, with both flags", s, 12, api.ErrState)
		ask("given up", s, 5, api.ErrState)
		ask("given up, with both flags", s, 9, api.ErrState)
		ask("both flags", s, 8, api.ErrSerial)
	}
	for _, id := range []int{2, 4, 6, 11} {
		ask("no stamp left", full, id, api.ErrFull)
	}
}

func TestP172Abort(t *testing.T) {
	full := mixed()
	full.Clock = most
	for _, s := range []ssi.State{mixed(), full} {
		for _, id := range []int{2, 4, 6, 8, 11} {
			next, err := ssi.Abort(s, id)
			tells(t, "Abort", next, err, with(s, id, -1))
		}
		for _, id := range append([]int{1, 7, 13, 29, 30, most}, extremes...) {
			next, err := ssi.Abort(s, id)
			refused(t, "who is not there", next, err, api.ErrNone)
		}
		for _, id := range []int{3, 5, 9, 10, 12} {
			next, err := ssi.Abort(s, id)
			refused(t, "who is not active", next, err, api.ErrState)
		}
	}
}

func TestP172HorizonAndRetire(t *testing.T) {
	for _, h := range []struct {
		what    string
		s       ssi.State
		horizon int
		gone    []int
	}{
		{"of none", of(0, 1), 0, nil},
		{"of none, later", of(9, 4), 9, nil},
		{"one active", of(9, 4, txn(1, 4, 0, "")), 4, nil},
		{"one active of snapshot 0", of(9, 4, txn(1, 0, 0, "")), 0, nil},
		{"one active of now", of(9, 4, txn(1, 9, 0, "")), 9, nil},
		{"one active, of both flags", of(9, 4, txn(1, 4, 0, "IO")), 4, nil},
		{"the least is the last", of(9, 4, txn(1, 4, 0, ""), txn(2, 5, 0, ""), txn(3, 3, 0, "")), 3, nil},
		{"the least is the first", of(9, 4, txn(1, 3, 0, ""), txn(2, 5, 0, ""), txn(3, 4, 0, "")), 3, nil},
		{"the least is in the middle", of(9, 4, txn(1, 5, 0, ""), txn(2, 3, 0, ""), txn(3, 4, 0, "")), 3, nil},
		{"given up, none active", of(9, 4, txn(1, 4, -1, "")), 9, []int{1}},
		{"given up, of now", of(9, 4, txn(1, 9, -1, "")), 9, []int{1}},
		{"given up, the snapshot below and above the Horizon", of(9, 4, txn(1, 4, -1, ""), txn(2, 5, 0, ""), txn(3, 6, -1, "I")), 5, []int{1, 3}},
		{"given up, of Horizon 0", of(9, 4, txn(1, 0, -1, ""), txn(2, 0, 0, "")), 0, []int{1}},
		{"committed, none active", of(9, 4, txn(1, 2, 4, "IO")), 9, []int{1}},
		{"committed at the Clock, none active", of(9, 4, txn(1, 2, 9, "O")), 9, []int{1}},
		{"committed at the Horizon", of(9, 4, txn(1, 2, 5, ""), txn(2, 5, 0, "")), 5, []int{1}},
		{"committed below the Horizon", of(9, 4, txn(1, 2, 4, ""), txn(2, 5, 0, "")), 5, []int{1}},
		{"committed above the Horizon", of(9, 4, txn(1, 2, 6, ""), txn(2, 5, 0, "")), 5, nil},
		{"committed at 1, Horizon 1", of(9, 4, txn(1, 0, 1, ""), txn(2, 1, 0, "")), 1, []int{1}},
		{"committed at 1, Horizon 0", of(9, 4, txn(1, 0, 1, ""), txn(2, 0, 0, "")), 0, nil},
		{"the snapshots of the committed do not matter", of(9, 4, txn(1, 0, 6, ""), txn(2, 5, 0, ""), txn(3, 1, 5, "")), 5, []int{3}},
		{"IDs rise, Ends fall", of(9, 5, txn(1, 0, 6, ""), txn(2, 5, -1, ""), txn(3, 1, 5, ""), txn(4, 1, 3, "")), 9, []int{1, 2, 3, 4}},
		{"at the greatest stamp", of(most, 4, txn(1, most-1, most, ""), txn(2, most, 0, "")), most, []int{1}},
		{"all kinds", mixed(), 1, []int{5, 9}},
		{"all kinds, 2 gone", with(mixed(), 2, -1), 2, []int{2, 5, 9}},
		{"all kinds, 2 and 4 gone", with(with(mixed(), 2, -1), 4, -1), 3, []int{2, 3, 4, 5, 9}},
		{"all kinds, but 11 gone", with(with(with(with(mixed(), 2, -1), 4, -1), 6, 9), 8, -1), 5, []int{2, 3, 4, 5, 8, 9}},
	} {
		n, err := ssi.Horizon(h.s)
		numbers(t, h.what+": Horizon", []int{n, int(err)}, []int{h.horizon, 0})
		s, l, err := ssi.Retire(h.s)
		want := of(h.s.Clock, h.s.Next)
		for _, x := range h.s.Txns {
			if !slices.Contains(h.gone, x.ID) {
				want.Txns = append(want.Txns, x)
			}
		}
		tells(t, h.what+": Retire", s, err, want)
		numbers(t, h.what+": Retire", l, h.gone)
		s, l, err = ssi.Retire(s)
		tells(t, h.what+": Retire once more", s, err, want)
		numbers(t, h.what+": Retire once more", l, nil)
	}
}

// IDs and stamps of those who went are not given again.
func TestP172RetireKeepsClockAndNext(t *testing.T) {
	s := ssi.New()
	for i := range 5 {
		var id, stamp int
		s, id, _ = ssi.Begin(s)
		s, stamp, _ = ssi.Commit(s, id)
		numbers(t, "ID and stamp", []int{id, stamp}, []int{2*i + 1, i + 1})
		s, id, _ = ssi.Begin(s)
		s, _ = ssi.Abort(s, id)
		var l []int
		s, l, _ = ssi.Retire(s)
		numbers(t, "Retire", l, []int{2*i + 1, 2*i + 2})
		tells(t, "Retire", s, api.OK, of(i+1, 2*i+3))
	}
}
