package ssi_test

import (
	"slices"
	"testing"

	"switchback/api"
	"switchback/ssi"
)

// isSplit tells whether no committed one has In and Out.
func isSplit(s ssi.State) bool {
	return !slices.ContainsFunc(s.Txns, func(x ssi.Txn) bool { return x.End > 0 && x.In && x.Out })
}

// keeps: each call, of a state in which no committed one has both, tells such a one, that may be.
func keeps(t *testing.T, s ssi.State, ids ...int) {
	t.Helper()
	ask := func(what string, next ssi.State, err api.Errno) {
		t.Helper()
		if err == api.OK && (!isSplit(next) || ssi.Check(next) != api.OK) {
			t.Fatalf("%s of %s = %s", what, brief(s), brief(next))
		}
	}
	next, _, err := ssi.Begin(s)
	ask("Begin", next, err)
	next, _, err = ssi.Retire(s)
	ask("Retire", next, err)
	for _, id := range ids {
		next, _, err = ssi.Commit(s, id)
		ask("Commit", next, err)
		next, err = ssi.Abort(s, id)
		ask("Abort", next, err)
		for _, other := range ids {
			next, _, err = ssi.Edge(s, id, other)
			ask("Edge", next, err)
		}
	}
}

func TestP173OfAllOfTwo(t *testing.T) {
	asked := 0
	for _, x := range ended(1, flags...) {
		for _, y := range ended(2, flags...) {
			if s := of(4, 3, x, y); isSplit(s) && ssi.Check(s) == api.OK {
				keeps(t, s, 1, 2)
				asked++
			}
		}
	}
	if asked < 1000 {
		t.Error("just", asked)
	}
}

// A walk is many calls, one after another, and what came of them.
type walk struct {
	t     *testing.T
	next  func(n int) int
	s     ssi.State
	edges map[[2]int]int
	alive map[int]int
	clock int
	begun int
}

func (w *walk) ok(what string, err api.Errno) {
	w.t.Helper()
	if err != api.OK || !isSplit(w.s) || ssi.Check(w.s) != api.OK {
		w.t.Fatalf("%s: %s, %d", what, brief(w.s), err)
	}
}

func (w *walk) begin() {
	s, id, err := ssi.Begin(w.s)
	if len(w.s.Txns) == 64 {
		refused(w.t, "Begin of 64", s, err, api.ErrFull)
		w.retire()
		return
	}
	w.s = s
	w.ok("Begin", err)
	w.begun++
	numbers(w.t, "ID", []int{id}, []int{w.begun})
	w.alive[id] = 0
}

// edge tells of two, one of them active, and gives up at once who is to be, if the walk obeys.
func (w *walk) edge(x, y ssi.Txn, obeys bool) {
	s, l, err := ssi.Edge(w.s, x.ID, y.ID)
	w.s = s
	w.ok("Edge", err)
	if x.ID != y.ID && meet(lived(x), lived(y)) {
		w.edges[[2]int{x.ID, y.ID}]++
	}
	for _, id := range l {
		if at := slices.IndexFunc(s.Txns, func(x ssi.Txn) bool { return x.ID == id }); s.Txns[at].End != 0 {
			w.t.Fatalf("Edge: %s: %d is to be given up", brief(s), id)
		}
		if obeys {
			w.abort(id)
		}
	}
}

func (w *walk) abort(id int) {
	s, err := ssi.Abort(w.s, id)
	w.s = s
	w.ok("Abort", err)
	delete(w.alive, id)
}

func (w *walk) commit(x ssi.Txn) {
	s, stamp, err := ssi.Commit(w.s, x.ID)
	if x.In && x.Out {
		refused(w.t, "Commit of one with both", s, err, api.ErrSerial)
		w.abort(x.ID)
		return
	}
	w.s = s
	w.ok("Commit", err)
	w.clock++
	numbers(w.t, "stamp", []int{stamp}, []int{w.clock})
	w.alive[x.ID] = stamp
}

// retire: whoever is not there any more is not at the same time with any who is active, or begins later.
func (w *walk) retire() {
	old := w.s
	s, l, err := ssi.Retire(old)
	w.s = s
	w.ok("Retire", err)
	if len(old.Txns) < 64 {
		old, _, _ = ssi.Begin(old)
	}
	for _, id := range l {
		for _, x := range old.Txns {
			ahead, first, _ := ssi.Edge(old, x.ID, id)
			behind, second, _ := ssi.Edge(old, id, x.ID)
			if x.End == 0 && (!same(ahead, old) || !same(behind, old) || len(first)+len(second) > 0) {
				w.t.Fatalf("Retire: %s: %d went, that is met by %d", brief(old), id, x.ID)
			}
		}
	}
	horizon, err := ssi.Horizon(s)
	w.ok("Horizon", err)
	for _, x := range s.Txns {
		if x.End == -1 || x.End > 0 && x.End <= horizon || x.End == 0 && x.Start < horizon {
			w.t.Fatalf("Retire: %s: %d is there, behind %d", brief(s), x.ID, horizon)
		}
	}
}

// step makes one call that may come.
func (w *walk) step(obeys bool) {
	if len(w.s.Txns) == 0 || w.next(5) == 0 {
		w.begin()
		return
	}
	x, y := w.s.Txns[w.next(len(w.s.Txns))], w.s.Txns[w.next(len(w.s.Txns))]
	switch w.next(12) {
	case 0:
		w.retire()
	case 1:
		if x.End == 0 {
			w.abort(x.ID)
		}
	case 2, 3, 4, 5:
		if x.End == 0 {
			w.commit(x)
		}
	default:
		if x.End == 0 || y.End == 0 {
			w.edge(x, y, obeys)
		}
	}
}

func walks(t *testing.T, seed uint64) *walk {
	return &walk{t: t, next: rolled(seed), s: ssi.New(), edges: map[[2]int]int{}, alive: map[int]int{}}
}

// Also where nobody is given up who is to be.
func TestP173OfManyCalls(t *testing.T) {
	for seed := range uint64(60) {
		w := walks(t, seed)
		for range 600 {
			w.step(seed%2 == 0)
		}
		if w.clock < 5 || len(w.edges) < 20 {
			t.Error("just", w.clock, "stamps and", len(w.edges), "edges")
		}
	}
}

// A dangerous structure is one committed in the middle, ahead of somebody and behind somebody, none of whom was given up: there is none.
func TestP173NobodyIsInTheMiddle(t *testing.T) {
	in, out := 0, 0
	for seed := range uint64(60) {
		w := walks(t, 1000+seed)
		for range 300 {
			w.step(true)
		}
		ahead, behind := map[int]int{}, map[int]int{}
		for e := range w.edges {
			_, isReader := w.alive[e[0]]
			_, isWriter := w.alive[e[1]]
			if isReader && isWriter {
				behind[e[1]]++
				ahead[e[0]]++
			}
		}
		for id, stamp := range w.alive {
			if stamp > 0 && behind[id] > 0 && ahead[id] > 0 {
				t.Errorf("seed %d: %d is in the middle", seed, id)
			}
			if stamp > 0 {
				in += min(1, behind[id])
				out += min(1, ahead[id])
			}
		}
	}
	if in < 100 || out < 100 {
		t.Error("just", in, out)
	}
}

// Those that come one after another are never to be given up, whatever they read and write.
func TestP173OneAfterAnother(t *testing.T) {
	s := ssi.New()
	for range 64 {
		next, id, err := ssi.Begin(s)
		if err != api.OK {
			t.Fatal("Begin:", err)
		}
		for _, x := range next.Txns {
			for _, e := range [][2]int{{id, x.ID}, {x.ID, id}} {
				edged, l, err := ssi.Edge(next, e[0], e[1])
				tells(t, "Edge", edged, err, next)
				numbers(t, "Edge", l, nil)
			}
		}
		s, _, err = ssi.Commit(next, id)
		if err != api.OK {
			t.Fatal("Commit:", err)
		}
	}
}
