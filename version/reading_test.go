package version_test

import (
	"fmt"
	"slices"
	"testing"

	"switchback/api"
	"switchback/version"
)

// A book reads the chapter once more, without an order: what was committed by its stamp, and what is open, if anything is.
type book struct {
	done map[int]version.Version
	open []version.Version
}

// read answers no book where the chain may not be.
func read(l chain) (book, bool) {
	b := book{done: map[int]version.Version{}}
	for i, v := range l {
		if v.Txn < 1 || v.Txn > most || len(v.Value) > 4096 || v.Gone && v.Value != "" {
			return book{}, false
		}
		if v.Stamp == 0 && i == 0 {
			b.open = chain{v}
			continue
		}
		for stamp := range b.done {
			if stamp <= v.Stamp {
				return book{}, false
			}
		}
		if v.Stamp < 1 || v.Stamp > most {
			return book{}, false
		}
		b.done[v.Stamp] = v
	}
	return b, len(l) <= 64
}

func (b book) chain() chain {
	var stamps []int
	for stamp := range b.done {
		stamps = append(stamps, stamp)
	}
	slices.Sort(stamps)
	l := slices.Clone(b.open)
	for _, stamp := range slices.Backward(stamps) {
		l = append(l, b.done[stamp])
	}
	return l
}

// latest is the greatest stamp that is at most that one, or 0.
func (b book) latest(snap int) int {
	n := 0
	for stamp := range b.done {
		if stamp <= snap {
			n = max(n, stamp)
		}
	}
	return n
}

// own tells whether what is open is txn's.
func (b book) own(txn int) bool { return len(b.open) == 1 && b.open[0].Txn == txn }

func (b book) see(snap, txn int) (string, bool, int) {
	v := b.done[b.latest(snap)]
	if b.own(txn) {
		v = b.open[0]
	}
	return v.Value, v.Txn > 0 && !v.Gone, v.Stamp
}

func (b book) write(snap, txn int, isGone bool, value string) api.Errno {
	size := len(b.open) + len(b.done)
	switch {
	case txn <= 0 || txn > most:
		return api.ErrRange
	case len(value) > 4096 || isGone && value != "":
		return api.ErrLong
	case len(b.open) == 1 && !b.own(txn):
		return api.ErrConflict
	case len(b.open) == 0 && b.latest(most) > max(snap, 0):
		return api.ErrConflict
	case len(b.open) == 0 && size == 64:
		return api.ErrFull
	}
	return api.OK
}

func (b book) commit(txn, stamp int) api.Errno {
	switch {
	case !b.own(txn):
		return api.ErrNone
	case stamp <= b.latest(most) || stamp > most:
		return api.ErrRange
	}
	return api.OK
}

// prune asks of each whether anybody's snapshot, from the horizon on, is told something by it.
func (b book) prune(horizon int) {
	first := b.latest(horizon)
	for stamp, v := range b.done {
		if stamp < first || stamp == first && v.Gone {
			delete(b.done, stamp)
		}
	}
}

type asked struct {
	l                chain
	snap, txn, stamp int
	isGone           bool
	value            string
}

// agrees holds all calls against the book.
func agrees(t *testing.T, a asked) {
	t.Helper()
	what := fmt.Sprintf("%s, snap %d, txn %d, stamp %d, gone %t, %.20q", brief(a.l), a.snap, a.txn, a.stamp, a.isGone, a.value)
	b, may := read(a.l)
	if err := version.Check(a.l); (err == api.OK) != may || err != api.OK && err != api.ErrState {
		t.Fatalf("%s: Check = %d", what, err)
	}
	value, is, stamp, err := version.See(a.l, a.snap, a.txn)
	written, errs := written(a)
	committed, errc := version.Commit(a.l, a.txn, a.stamp)
	undone, erru := version.Undo(a.l, a.txn)
	left, errp := version.Prune(a.l, a.snap)
	if !may {
		if value != "" || is || stamp != 0 || err != api.ErrState {
			t.Fatalf("%s: See = %q, %t, %d, %d", what, value, is, stamp, err)
		}
		refused(t, what+": Write", written, errs, api.ErrState)
		refused(t, what+": Commit", committed, errc, api.ErrState)
		refused(t, what+": Undo", undone, erru, api.ErrState)
		refused(t, what+": Prune", left, errp, api.ErrState)
		return
	}
	if v, i, s := b.see(a.snap, a.txn); value != v || is != i || stamp != s || err != api.OK {
		t.Fatalf("%s: See = %q, %t, %d, %d, not %q, %t, %d", what, value, is, stamp, err, v, i, s)
	}
	open := b.open
	if want := b.write(a.snap, a.txn, a.isGone, a.value); want != api.OK {
		refused(t, what+": Write", written, errs, want)
	} else {
		b.open = chain{{Txn: a.txn, Gone: a.isGone, Value: a.value}}
		tells(t, what+": Write", written, errs, b.chain())
		b.open = open
	}
	if want := b.commit(a.txn, a.stamp); want != api.OK {
		refused(t, what+": Commit", committed, errc, want)
	} else {
		v := open[0]
		v.Stamp = a.stamp
		tells(t, what+": Commit", committed, errc, append(chain{v}, a.l[1:]...))
	}
	if b.own(a.txn) {
		b.open = nil
	}
	tells(t, what+": Undo", undone, erru, b.chain())
	b.open = open
	b.prune(a.snap)
	tells(t, what+": Prune", left, errp, b.chain())
}

func written(a asked) (chain, api.Errno) {
	return version.Write(a.l, a.snap, a.txn, a.isGone, a.value)
}

// All lists of at most three of a few versions, most of which may not be.
func TestP151AllShortLists(t *testing.T) {
	var all chain
	for stamp := -1; stamp <= 3; stamp++ {
		for txn := range 3 {
			all = append(all, was(stamp, txn, "v"), gone(stamp, txn))
		}
		all = append(all, version.Version{Stamp: stamp, Txn: 1, Gone: true, Value: "v"})
	}
	ask := func(l chain) { agrees(t, asked{l: l, snap: 2, txn: 1, stamp: 4, value: "w"}) }
	ask(nil)
	for _, v := range all {
		ask(chain{v})
		for _, w := range all {
			ask(chain{v, w})
			for _, x := range all {
				ask(chain{v, w, x})
			}
		}
	}
}

// shortChains are all of at most four versions that may be, of stamps up to 4, by two.
func shortChains() []chain {
	l := []chain{nil}
	for done := 0; done < len(l); done++ {
		of := l[done]
		if len(of) == 4 {
			break
		}
		below := 5
		if len(of) > 0 && of[len(of)-1].Stamp > 0 {
			below = of[len(of)-1].Stamp
		}
		for stamp := min(len(of), 1); stamp < below; stamp++ {
			for txn := 1; txn <= 2; txn++ {
				for _, v := range (chain{gone(stamp, txn), was(stamp, txn, string(rune('a'+stamp)))}) {
					l = append(l, append(slices.Clone(of), v))
				}
			}
		}
	}
	return l
}

func TestP151AllShortChains(t *testing.T) {
	l := shortChains()
	for _, of := range l {
		for snap := -1; snap <= 5; snap++ {
			for txn := range 4 {
				for stamp := range 6 {
					agrees(t, asked{of, snap, txn, stamp, stamp%2 == 0, ""})
				}
				agrees(t, asked{of, snap, txn, 5, txn%2 == 0, "w"})
			}
		}
	}
	if len(l) < 1000 {
		t.Error("just", len(l), "chains")
	}
}
