package ssi_test

import (
	"fmt"
	"math"
	"slices"
	"testing"

	"switchback/api"
	"switchback/ssi"
)

// A life reads a transaction once more: from which stamp on up to which other one it is; none of it, if it was given up. Flags: 1 In, 2 Out.
type life struct {
	from, to int
	flags    int
	active   bool
}

func lived(x ssi.Txn) life {
	l := life{from: x.Start, to: x.End, active: x.End == 0}
	switch x.End {
	case 0:
		l.to = math.MaxInt
	case -1:
		l.to = x.Start
	}
	if x.In {
		l.flags++
	}
	if x.Out {
		l.flags += 2
	}
	return l
}

// meet tells whether two lives have something in common.
func meet(l, m life) bool { return max(l.from, m.from) < min(l.to, m.to) }

func within(n, low, high int) bool { return low <= n && n <= high }

// mayBe reads which states may be once more, each with each.
func mayBe(s ssi.State) bool {
	is := within(len(s.Txns), 0, 64) && within(s.Clock, 0, most) && within(s.Next, 1, most)
	for i, x := range s.Txns {
		is = is && within(x.ID, 1, most) && within(x.Start, 0, most) && within(x.End, -1, most)
		is = is && x.ID < s.Next && x.Start <= s.Clock && x.End <= s.Clock && (x.End < 1 || x.Start < x.End)
		for _, y := range s.Txns[:i] {
			is = is && y.ID < x.ID && (x.End < 1 || y.End != x.End)
		}
	}
	return is
}

// An answer is what a call tells: no state where there is an error.
type answer struct {
	s   ssi.State
	n   []int
	err api.Errno
}

func (a answer) String() string { return fmt.Sprint(brief(a.s), a.n, a.err) }

func (a answer) isLike(b answer) bool {
	return same(a.s, b.s) && slices.Equal(a.n, b.n) && a.err == b.err
}

// A book has a state's transactions by their IDs.
type book struct {
	ssi.State
	by map[int]ssi.Txn
}

func opened(s ssi.State) book {
	b := book{s, map[int]ssi.Txn{}}
	for _, x := range s.Txns {
		b.by[x.ID] = x
	}
	return b
}

// closed is the state of a book, its IDs rising.
func (b book) closed() ssi.State {
	s := ssi.State{Clock: b.Clock, Next: b.Next}
	for _, x := range b.by {
		s.Txns = append(s.Txns, x)
	}
	slices.SortFunc(s.Txns, func(x, y ssi.Txn) int { return x.ID - y.ID })
	return s
}

func (b book) begin() answer {
	if len(b.by) == 64 || b.Next == most {
		return answer{err: api.ErrFull}
	}
	id := b.Next
	b.by[id] = ssi.Txn{ID: id, Start: b.Clock}
	b.Next++
	return answer{b.closed(), []int{id}, api.OK}
}

// edge asks of each of both whether it stays as it was, and whether it is to be given up, by what it and the other one are full of.
func (b book) edge(reader, writer int) answer {
	r, isReader := b.by[reader]
	w, isWriter := b.by[writer]
	if !isReader || !isWriter {
		return answer{err: api.ErrNone}
	}
	if reader == writer || !meet(lived(r), lived(w)) {
		return answer{b.closed(), nil, api.OK}
	}
	fullReader, fullWriter := lived(r).flags&1 == 1, lived(w).flags&2 == 2
	var gone []int
	if r.End == 0 && (fullReader || fullWriter && w.End != 0) {
		gone = append(gone, reader)
	}
	if w.End == 0 && (fullWriter || fullReader && r.End != 0) {
		gone = append(gone, writer)
	}
	if r.End == 0 || !fullReader {
		r.Out = true
	}
	if w.End == 0 || !fullWriter {
		w.In = true
	}
	b.by[reader], b.by[writer] = r, w
	return answer{b.closed(), gone, api.OK}
}

func (b book) commit(id int) answer {
	x, is := b.by[id]
	switch {
	case !is:
		return answer{err: api.ErrNone}
	case !lived(x).active:
		return answer{err: api.ErrState}
	case lived(x).flags == 3:
		return answer{err: api.ErrSerial}
	case b.Clock == most:
		return answer{err: api.ErrFull}
	}
	b.Clock++
	x.End = b.Clock
	b.by[id] = x
	return answer{b.closed(), []int{x.End}, api.OK}
}

func (b book) abort(id int) answer {
	x, is := b.by[id]
	switch {
	case !is:
		return answer{err: api.ErrNone}
	case !lived(x).active:
		return answer{err: api.ErrState}
	}
	x.End = -1
	b.by[id] = x
	return answer{s: b.closed()}
}

func (b book) horizon() int {
	starts := []int{b.Clock}
	for _, x := range b.by {
		if lived(x).active {
			starts = append(starts, x.Start)
		}
	}
	slices.Sort(starts)
	return starts[0]
}

// retire asks of each whether its life goes beyond the horizon.
func (b book) retire() answer {
	horizon := b.horizon()
	var gone []int
	for id, x := range b.by {
		if x.End == -1 || lived(x).to <= horizon {
			gone = append(gone, id)
		}
	}
	slices.Sort(gone)
	for _, id := range gone {
		delete(b.by, id)
	}
	return answer{b.closed(), gone, api.OK}
}

// listed is a number in a list, or none beside an error.
func listed(n int, err api.Errno) []int {
	if n == 0 && err != api.OK {
		return nil
	}
	return []int{n}
}

// isRead tells whether a call answers what the chapter, read once more, has.
func isRead(t *testing.T, what string, s ssi.State, got answer, want func(b book) answer) {
	t.Helper()
	a := answer{err: api.ErrState}
	if mayBe(s) {
		a = want(opened(s))
	}
	if !got.isLike(a) {
		t.Fatalf("%s of %s = %v, not %v", what, brief(s), got, a)
	}
}

func agreesAlone(t *testing.T, s ssi.State) {
	t.Helper()
	isRead(t, "Check", s, answer{err: ssi.Check(s)}, func(b book) answer { return answer{} })
	next, n, err := ssi.Begin(s)
	isRead(t, "Begin", s, answer{next, listed(n, err), err}, book.begin)
	n, err = ssi.Horizon(s)
	isRead(t, "Horizon", s, answer{n: listed(n, err), err: err}, func(b book) answer { return answer{n: []int{b.horizon()}} })
	next, l, err := ssi.Retire(s)
	isRead(t, "Retire", s, answer{next, l, err}, book.retire)
}

func agreesOf(t *testing.T, s ssi.State, id int) {
	t.Helper()
	next, n, err := ssi.Commit(s, id)
	isRead(t, fmt.Sprint("Commit ", id), s, answer{next, listed(n, err), err}, func(b book) answer { return b.commit(id) })
	next, err = ssi.Abort(s, id)
	isRead(t, fmt.Sprint("Abort ", id), s, answer{next, nil, err}, func(b book) answer { return b.abort(id) })
}

func agreesOfTwo(t *testing.T, s ssi.State, reader, writer int) {
	t.Helper()
	next, l, err := ssi.Edge(s, reader, writer)
	isRead(t, fmt.Sprint("Edge ", reader, " ", writer), s, answer{next, l, err}, func(b book) answer { return b.edge(reader, writer) })
}

func agrees(t *testing.T, s ssi.State, ids ...int) {
	t.Helper()
	agreesAlone(t, s)
	for _, id := range ids {
		agreesOf(t, s, id)
		for _, other := range ids {
			agreesOfTwo(t, s, id, other)
		}
	}
}

var flags = []string{"", "I", "O", "IO"}

// All states of at most one, most of which may not be.
func TestP171AllOfOne(t *testing.T) {
	for _, clock := range []int{-1, 0, 1, 2, most - 1, most, most + 1} {
		for _, next := range []int{-1, 0, 1, 2, 3, most - 1, most, most + 1} {
			agrees(t, of(clock, next), 1)
			for _, id := range []int{-1, 0, 1, 2, most - 2, most - 1, most, most + 1} {
				for _, start := range []int{-1, 0, 1, 2, most - 1, most, most + 1} {
					for _, end := range []int{-2, -1, 0, 1, 2, most - 1, most, most + 1} {
						agrees(t, of(clock, next, txn(id, start, end, flags[(start+end)&3])), id)
					}
				}
			}
		}
	}
}

// ended are all transactions of that ID with stamps of at most 4, and one beyond.
func ended(id int, flags ...string) txns {
	var l txns
	for start := range 4 {
		for end := -1; end < 5; end++ {
			for _, f := range flags {
				l = append(l, txn(id, start, end, f))
			}
		}
	}
	return l
}

func TestP171AllOfTwo(t *testing.T) {
	for _, x := range ended(1, flags...) {
		for _, y := range ended(2, flags...) {
			agrees(t, of(3, 3, x, y), 1, 2)
		}
	}
}

func TestP172AllOfThree(t *testing.T) {
	for i, x := range ended(1, "") {
		for j, y := range ended(2, "I") {
			for k, z := range ended(3, flags[(i+j)%4]) {
				s := of(3+(i+j+k)%2, 4, x, y, z)
				agreesAlone(t, s)
				agreesOf(t, s, 1+(i+j+k)%3)
				agreesOfTwo(t, s, 1+i%3, 1+j%3)
			}
		}
	}
}
