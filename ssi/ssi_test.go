package ssi_test

import (
	"fmt"
	"math"
	"slices"
	"strings"
	"testing"

	"switchback/api"
	"switchback/ssi"
)

type txns = []ssi.Txn

const most = 1 << 40

// txn is a transaction with those of the flags I and O.
func txn(id, start, end int, flags string) ssi.Txn {
	return ssi.Txn{ID: id, Start: start, End: end, In: strings.Contains(flags, "I"), Out: strings.Contains(flags, "O")}
}

func of(clock, next int, l ...ssi.Txn) ssi.State {
	return ssi.State{Txns: l, Clock: clock, Next: next}
}

// crowd is n active ones, who began at 0.
func crowd(n int) txns {
	var l txns
	for i := range n {
		l = append(l, txn(1+i, 0, 0, ""))
	}
	return l
}

// extremes are numbers that no ID is.
var extremes = []int{math.MinInt, -most, -1, 0, most + 1, math.MaxInt}

// brief shows a state: 3@1-5IO is 3 from 1 to 5 with both flags.
func brief(s ssi.State) string {
	var b strings.Builder
	for i, x := range s.Txns {
		if i == 8 {
			fmt.Fprintf(&b, "... (%d in all) ", len(s.Txns))
			break
		}
		fmt.Fprintf(&b, "%d@%d-%d", x.ID, x.Start, x.End)
		if x.In {
			b.WriteString("I")
		}
		if x.Out {
			b.WriteString("O")
		}
		b.WriteString(" ")
	}
	return fmt.Sprintf("{%sclock %d next %d}", b.String(), s.Clock, s.Next)
}

func same(s, other ssi.State) bool {
	return s.Clock == other.Clock && s.Next == other.Next && slices.Equal(s.Txns, other.Txns)
}

func tells(t *testing.T, what string, s ssi.State, err api.Errno, want ssi.State) {
	t.Helper()
	if err != api.OK || !same(s, want) {
		t.Errorf("%s = %s, %d, not %s", what, brief(s), err, brief(want))
	}
}

func refused(t *testing.T, what string, s ssi.State, err, want api.Errno) {
	t.Helper()
	if err != want || len(s.Txns) > 0 || s.Clock != 0 || s.Next != 0 {
		t.Errorf("%s = %s, %d, not %d and nothing", what, brief(s), err, want)
	}
}

func numbers(t *testing.T, what string, l, want []int) {
	t.Helper()
	if !slices.Equal(l, want) {
		t.Errorf("%s: %d, not %d", what, l, want)
	}
}

// TestP171Example: Begin, Begin, Edge(1, 2), Edge(2, 1).
func TestP171Example(t *testing.T) {
	s, a, err := ssi.Begin(ssi.New())
	tells(t, "Begin", s, err, of(0, 2, txn(1, 0, 0, "")))
	s, b, err := ssi.Begin(s)
	tells(t, "Begin", s, err, of(0, 3, txn(1, 0, 0, ""), txn(2, 0, 0, "")))
	numbers(t, "IDs", []int{a, b}, []int{1, 2})
	s, l, err := ssi.Edge(s, 1, 2)
	tells(t, "Edge(1, 2)", s, err, of(0, 3, txn(1, 0, 0, "O"), txn(2, 0, 0, "I")))
	numbers(t, "Edge(1, 2)", l, nil)
	s, l, err = ssi.Edge(s, 2, 1)
	tells(t, "Edge(2, 1)", s, err, of(0, 3, txn(1, 0, 0, "IO"), txn(2, 0, 0, "IO")))
	numbers(t, "Edge(2, 1)", l, []int{2, 1})
}

func TestP171New(t *testing.T) {
	tells(t, "New", ssi.New(), api.OK, ssi.State{Next: 1})
	if err := ssi.Check(ssi.New()); err != api.OK {
		t.Error("Check(New()) =", err)
	}
	if err := ssi.Check(ssi.State{}); err != api.ErrState {
		t.Error("Check of what no call made =", err)
	}
}

type checked struct {
	what string
	s    ssi.State
	err  api.Errno
}

func checks() []checked {
	no, yes := api.ErrState, api.OK
	one := func(start, end int, clock int) ssi.State { return of(clock, 2, txn(1, start, end, "")) }
	l := []checked{
		{"none", of(0, 1), yes},
		{"an empty list", ssi.State{Txns: txns{}, Next: 1}, yes},
		{"none, a clock that went", of(7, 5), yes},
		{"64", of(0, 65, crowd(64)...), yes},
		{"65", of(0, 66, crowd(65)...), no},
		{"Clock -1", of(-1, 1), no},
		{"Clock least", of(math.MinInt, 1), no},
		{"Clock 2^40", of(most, 1), yes},
		{"Clock 2^40 + 1", of(most+1, 1), no},
		{"Clock greatest", of(math.MaxInt, 1), no},
		{"Next 0", of(0, 0), no},
		{"Next -1", of(0, -1), no},
		{"Next least", of(0, math.MinInt), no},
		{"Next 2^40", of(0, most), yes},
		{"Next 2^40 + 1", of(0, most+1), no},
		{"Next greatest", of(0, math.MaxInt), no},
		{"Next an ID", of(0, 1, txn(1, 0, 0, "")), no},
		{"Next above an ID", of(0, 2, txn(1, 0, 0, "")), yes},
		{"Next far above", of(0, most, txn(1, 0, 0, "")), yes},
		{"Next the last ID", of(0, 5, txn(1, 0, 0, ""), txn(5, 0, 0, "")), no},
		{"Next between IDs", of(0, 3, txn(1, 0, 0, ""), txn(5, 0, 0, "")), no},
		{"Next above the last ID", of(0, 6, txn(1, 0, 0, ""), txn(5, 0, 0, "")), yes},
		{"ID 0", of(0, 2, txn(0, 0, 0, "")), no},
		{"ID -1", of(0, 2, txn(-1, 0, 0, "")), no},
		{"ID least", of(0, 2, txn(math.MinInt, 0, 0, "")), no},
		{"ID 2^40 - 1", of(0, most, txn(most-1, 0, 0, "")), yes},
		{"ID 2^40: no Next is above", of(0, most, txn(most, 0, 0, "")), no},
		{"ID 2^40, Next above", of(0, most+1, txn(most, 0, 0, "")), no},
		{"ID 2^40 + 1", of(0, most+2, txn(most+1, 0, 0, "")), no},
		{"ID greatest", of(0, most, txn(math.MaxInt, 0, 0, "")), no},
		{"IDs alike", of(0, 9, txn(2, 0, 0, ""), txn(2, 0, 0, "")), no},
		{"IDs fall", of(0, 9, txn(2, 0, 0, ""), txn(1, 0, 0, "")), no},
		{"IDs rise by more", of(0, 9, txn(2, 0, 0, ""), txn(7, 0, 0, ""), txn(8, 0, 0, "")), yes},
		{"IDs fall at the end", of(0, 9, txn(2, 0, 0, ""), txn(7, 0, 0, ""), txn(6, 0, 0, "")), no},
		{"IDs alike over one", of(0, 9, txn(2, 0, 0, ""), txn(7, 0, 0, ""), txn(2, 0, 0, "")), no},
		{"ID 0 ahead", of(0, 9, txn(0, 0, 0, ""), txn(1, 0, 0, "")), no},
		{"Start -1", one(-1, 0, 3), no},
		{"Start least", one(math.MinInt, 0, 3), no},
		{"Start 0", one(0, 0, 3), yes},
		{"Start Clock", one(3, 0, 3), yes},
		{"Start above Clock", one(4, 0, 3), no},
		{"Start above Clock, given up", one(4, -1, 3), no},
		{"Start above a Clock of 0", one(1, 0, 0), no},
		{"Start 2^40", one(most, 0, most), yes},
		{"Start 2^40 + 1", one(most+1, 0, most), no},
		{"Start and Clock 2^40 + 1", one(most+1, 0, most+1), no},
		{"Start greatest", one(math.MaxInt, 0, most), no},
		{"Starts fall", of(4, 9, txn(1, 3, 0, ""), txn(2, 1, 0, "")), yes},
		{"End -2", one(0, -2, 3), no},
		{"End least", one(0, math.MinInt, 3), no},
		{"End -1", one(0, -1, 3), yes},
		{"End -1, Start Clock", one(3, -1, 3), yes},
		{"End 0", one(2, 0, 3), yes},
		{"End 1", one(0, 1, 3), yes},
		{"End Clock", one(0, 3, 3), yes},
		{"End above Clock", one(0, 4, 3), no},
		{"End 1 of a Clock of 0", one(0, 1, 0), no},
		{"End above Start", one(2, 3, 3), yes},
		{"End at Start", one(2, 2, 3), no},
		{"End below Start", one(2, 1, 3), no},
		{"End at the Start 1", one(1, 1, 3), no},
		{"End 2^40", one(most-1, most, most), yes},
		{"End and Start 2^40", one(most, most, most), no},
		{"End 2^40 + 1", one(0, most+1, most), no},
		{"End and Clock 2^40 + 1", one(0, most+1, most+1), no},
		{"End greatest", one(0, math.MaxInt, most), no},
		{"Ends alike", of(3, 9, txn(1, 0, 2, ""), txn(2, 0, 2, "")), no},
		{"Ends of 1 alike", of(3, 9, txn(1, 0, 1, ""), txn(2, 0, 1, "")), no},
		{"Ends alike over others", of(3, 9, txn(1, 0, 2, ""), txn(2, 0, 0, ""), txn(3, 0, 3, ""), txn(4, 1, 2, "")), no},
		{"Ends fall", of(3, 9, txn(1, 0, 3, ""), txn(2, 0, 2, "")), yes},
		{"Ends of 0 alike", of(3, 9, txn(1, 0, 0, ""), txn(2, 0, 0, "")), yes},
		{"Ends of -1 alike", of(3, 9, txn(1, 0, -1, ""), txn(2, 0, -1, "")), yes},
		{"an End and another's Start alike", of(3, 9, txn(1, 0, 2, ""), txn(2, 2, 0, "")), yes},
	}
	for _, flags := range []string{"", "I", "O", "IO"} {
		for _, end := range []int{-1, 0, 2} {
			l = append(l, checked{"flags " + flags, of(3, 2, txn(1, 1, end, flags)), yes})
		}
	}
	return l
}

func TestP171Check(t *testing.T) {
	for _, c := range checks() {
		if err := ssi.Check(c.s); err != c.err {
			t.Errorf("%s: Check = %d, not %d", c.what, err, c.err)
		}
		// What is wrong of one is wrong wherever it stands.
		s := c.s
		s.Txns = slices.Clone(s.Txns)
		for i := range s.Txns {
			s.Txns[i].ID += 2
		}
		s.Txns = append(txns{txn(1, 0, 0, "I"), txn(2, 0, -1, "")}, s.Txns...)
		s.Next += 2
		if len(c.s.Txns) > 0 && c.s.Txns[0].ID > 0 && c.s.Next < most-1 && len(c.s.Txns) < 60 {
			if err := ssi.Check(s); err != c.err {
				t.Errorf("%s, behind others: Check = %d, not %d", c.what, err, c.err)
			}
		}
	}
}

// All others tell Check's error, ahead of their own.
func TestP171CheckGoesAhead(t *testing.T) {
	for _, c := range checks() {
		if c.err == api.OK {
			continue
		}
		s, n, err := ssi.Begin(c.s)
		refused(t, c.what+": Begin", s, err, c.err)
		for _, id := range []int{1, 2, 9, 0, -1, math.MaxInt} {
			s, m, err := ssi.Commit(c.s, id)
			refused(t, c.what+": Commit", s, err, c.err)
			n += m
			s, err = ssi.Abort(c.s, id)
			refused(t, c.what+": Abort", s, err, c.err)
			for _, other := range []int{1, 2, 9, 0} {
				s, l, err := ssi.Edge(c.s, id, other)
				refused(t, c.what+": Edge", s, err, c.err)
				n += len(l)
			}
		}
		h, err := ssi.Horizon(c.s)
		if n != 0 || h != 0 || err != c.err {
			t.Errorf("%s: Horizon = %d, %d; others told %d", c.what, h, err, n)
		}
		s, l, err := ssi.Retire(c.s)
		refused(t, c.what+": Retire", s, err, c.err)
		numbers(t, c.what+": Retire", l, nil)
	}
}

func TestP171Begin(t *testing.T) {
	old := txns{txn(2, 1, 0, "O"), txn(3, 0, -1, "IO"), txn(6, 2, 4, "I")}
	for _, b := range []struct {
		what  string
		s     ssi.State
		id    int
		start int
	}{
		{"of none", of(0, 1), 1, 0},
		{"of none, later", of(5, 9), 9, 5},
		{"behind others", of(4, 7, old...), 7, 4},
		{"an ID that is not the next one there", of(9, 40, old...), 40, 9},
		{"at the greatest stamp", of(most, 7, old...), 7, most},
		{"the last ID", of(3, most-1, txn(5, 1, 0, "")), most - 1, 3},
		{"the 64th", of(0, 64, crowd(63)...), 64, 0},
	} {
		s, id, err := ssi.Begin(b.s)
		want := of(b.s.Clock, b.id+1, append(slices.Clone(b.s.Txns), ssi.Txn{ID: b.id, Start: b.start})...)
		tells(t, b.what, s, err, want)
		numbers(t, b.what, []int{id}, []int{b.id})
	}
}

func TestP171BeginFull(t *testing.T) {
	gone := crowd(64)
	for i := range gone {
		gone[i].End = -1
	}
	for _, b := range []checked{
		{"a 65th", of(0, 65, crowd(64)...), api.ErrFull},
		{"a 65th, of such as were given up", of(0, 65, gone...), api.ErrFull},
		{"Next is 2^40", of(0, most), api.ErrFull},
		{"Next is 2^40, of some", of(3, most, txn(1, 0, 0, "")), api.ErrFull},
		{"both", of(0, most, crowd(64)...), api.ErrFull},
	} {
		s, id, err := ssi.Begin(b.s)
		refused(t, b.what, s, err, b.err)
		numbers(t, b.what, []int{id}, []int{0})
	}
}
