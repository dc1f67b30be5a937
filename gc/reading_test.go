package gc_test

import (
	"fmt"
	"slices"
	"testing"

	"switchback/api"
	"switchback/gc"
	"switchback/version"
)

// A fact is that a key was written.
type fact struct {
	key string
	version.Version
}

// A ledger reads the chapter once more, without keys that rise and without chains: all that was written.
type ledger []fact

// read answers no ledger where the chains may not be.
func read(c gc.Chains) (ledger, bool) {
	if len(c.Keys) != len(c.Lists) || len(c.Keys) > 2048 {
		return nil, false
	}
	var all ledger
	for i, key := range c.Keys {
		for _, other := range c.Keys[:i] {
			if other >= key {
				return nil, false
			}
		}
		l := c.Lists[i]
		for j, v := range l {
			for _, behind := range l[j+1:] {
				if behind.Stamp == 0 || v.Stamp > 0 && v.Stamp <= behind.Stamp {
					return nil, false
				}
			}
			if v.Stamp < 0 || v.Stamp > most || v.Txn < 1 || v.Txn > most || len(v.Value) > 4096 || v.Gone && v.Value != "" {
				return nil, false
			}
			all = append(all, fact{key, v})
		}
		if len(l) < 1 || len(l) > 64 {
			return nil, false
		}
	}
	return all, true
}

// chains are the ledger's facts by key, what is open ahead, then the latest first.
func (l ledger) chains() gc.Chains {
	l = slices.Clone(l)
	slices.SortFunc(l, func(a, b fact) int {
		switch {
		case a.key != b.key:
			return compared(a.key < b.key)
		case a.Stamp == 0:
			return -1
		case b.Stamp == 0:
			return 1
		}
		return compared(a.Stamp > b.Stamp)
	})
	var c gc.Chains
	for _, f := range l {
		if len(c.Keys) == 0 || c.Keys[len(c.Keys)-1] != f.key {
			c.Keys = append(c.Keys, f.key)
			c.Lists = append(c.Lists, nil)
		}
		last := len(c.Lists) - 1
		c.Lists[last] = append(c.Lists[last], f.Version)
	}
	return c
}

func compared(isAhead bool) int {
	if isAhead {
		return -1
	}
	return 1
}

// about is what was written of one key.
func (l ledger) about(key string) ledger {
	var of ledger
	for _, f := range l {
		if f.key == key {
			of = append(of, f)
		}
	}
	return of
}

func (f fact) isOpenBy(txn int) bool { return f.Stamp == 0 && f.Txn == txn }

// see is what counts for txn of one key's facts.
func (l ledger) see(snap, txn int) fact {
	var best fact
	for _, f := range l {
		if f.isOpenBy(txn) {
			return f
		}
		if f.Stamp > best.Stamp && f.Stamp <= snap {
			best = f
		}
	}
	return best
}

func (l ledger) keys() []string {
	var keys []string
	for _, f := range l {
		if !slices.Contains(keys, f.key) {
			keys = append(keys, f.key)
		}
	}
	slices.Sort(keys)
	return keys
}

func (l ledger) between(from, to string, snap, txn int) []api.Pair {
	var all []api.Pair
	for _, key := range l.keys() {
		f := l.about(key).see(snap, txn)
		if key >= from && (key < to || to == "") && f.Txn > 0 && !f.Gone {
			all = append(all, api.Pair{Key: key, Value: f.Value})
		}
	}
	return all
}

func (l ledger) put(a asked) (ledger, api.Errno) {
	about := l.about(a.key)
	isOwn := slices.ContainsFunc(about, func(f fact) bool { return f.isOpenBy(a.txn) })
	isLate := slices.ContainsFunc(about, func(f fact) bool { return f.Stamp == 0 || f.Stamp > a.snap })
	switch {
	case len(a.key) > 1024:
		return nil, api.ErrName
	case a.txn < 1 || a.txn > most:
		return nil, api.ErrRange
	case len(a.value) > 4096 || a.isGone && a.value != "":
		return nil, api.ErrLong
	case isLate && !isOwn:
		return nil, api.ErrConflict
	case len(about) == 64 && !isOwn:
		return nil, api.ErrFull
	case len(about) == 0 && len(l.keys()) == 2048:
		return nil, api.ErrFull
	}
	next := ledger{{a.key, version.Version{Txn: a.txn, Gone: a.isGone, Value: a.value}}}
	for _, f := range l {
		if f.key != a.key || !f.isOpenBy(a.txn) {
			next = append(next, f)
		}
	}
	return next, api.OK
}

func (l ledger) commit(txn, stamp int) (ledger, api.Errno) {
	var next ledger
	for _, f := range l {
		if f.isOpenBy(txn) {
			for _, other := range l.about(f.key) {
				if other.Stamp >= stamp {
					return nil, api.ErrRange
				}
			}
			if stamp < 1 || stamp > most {
				return nil, api.ErrRange
			}
			f.Stamp = stamp
		}
		next = append(next, f)
	}
	return next, api.OK
}

func (l ledger) undo(txn int) ledger {
	var next ledger
	for _, f := range l {
		if !f.isOpenBy(txn) {
			next = append(next, f)
		}
	}
	return next
}

// sweep asks of each fact whether anybody's snapshot, from the horizon on, is told something by it.
func (l ledger) sweep(horizon int) ledger {
	var next ledger
	for _, f := range l {
		latest := l.about(f.key).see(horizon, 0)
		if f.Stamp == 0 || f.Stamp > horizon || f == latest && !f.Gone {
			next = append(next, f)
		}
	}
	return next
}

type asked struct {
	c         gc.Chains
	key, to   string
	snap, txn int
	stamp     int
	isGone    bool
	value     string
}

// agrees holds all calls against the ledger.
func agrees(t *testing.T, a asked) {
	t.Helper()
	what := fmt.Sprintf("%s, %.20q to %.20q, snap %d, txn %d, stamp %d, gone %t, %.20q", brief(a.c), a.key, a.to, a.snap, a.txn, a.stamp, a.isGone, a.value)
	l, may := read(a.c)
	if err := gc.Check(a.c); (err == api.OK) != may || err != api.OK && err != api.ErrState {
		t.Fatalf("%s: Check = %d", what, err)
	}
	value, is, stamp, err := gc.Get(a.c, a.key, a.snap, a.txn)
	pairs, errr := gc.Range(a.c, a.key, a.to, a.snap, a.txn)
	written, errp := gc.Put(a.c, a.key, a.snap, a.txn, a.isGone, a.value)
	committed, errc := gc.Commit(a.c, a.txn, a.stamp)
	undone, erru := gc.Undo(a.c, a.txn)
	swept, went, errs := gc.Sweep(a.c, a.snap)
	if !may {
		if value != "" || is || stamp != 0 || len(pairs) > 0 || went != 0 || err != api.ErrState || errr != api.ErrState {
			t.Fatalf("%s: Get = %q, %t, %d, %d, Range = %q, %d; %d went", what, value, is, stamp, err, pairs, errr, went)
		}
		refused(t, what+": Put", written, errp, api.ErrState)
		refused(t, what+": Commit", committed, errc, api.ErrState)
		refused(t, what+": Undo", undone, erru, api.ErrState)
		refused(t, what+": Sweep", swept, errs, api.ErrState)
		return
	}
	f := l.about(a.key).see(a.snap, a.txn)
	if value != f.Value || is != (f.Txn > 0 && !f.Gone) || stamp != f.Stamp || err != api.OK {
		t.Fatalf("%s: Get = %q, %t, %d, %d, not %v", what, value, is, stamp, err, f)
	}
	ranges(t, what, pairs, errr, l.between(a.key, a.to, a.snap, a.txn))
	put, want := l.put(a)
	become(t, what+": Put", written, errp, put, want)
	done, want := l.commit(a.txn, a.stamp)
	become(t, what+": Commit", committed, errc, done, want)
	become(t, what+": Undo", undone, erru, l.undo(a.txn), api.OK)
	left := l.sweep(a.snap)
	become(t, what+": Sweep", swept, errs, left, api.OK)
	if went != len(l)-len(left) {
		t.Fatalf("%s: Sweep: %d went, not %d", what, went, len(l)-len(left))
	}
}

func become(t *testing.T, what string, c gc.Chains, err api.Errno, l ledger, want api.Errno) {
	t.Helper()
	if want != api.OK {
		refused(t, what, c, err, want)
	} else {
		tells(t, what, c, err, l.chains())
	}
	if t.Failed() {
		t.FailNow()
	}
}

// shortLists are all lists of at most two of a few versions, most of which may not be.
func shortLists() []chain {
	var all chain
	for _, stamp := range []int{-1, 0, 1, 2} {
		for txn := range 3 {
			all = append(all, was(stamp, txn, "v"), gone(stamp, txn))
		}
	}
	l := []chain{nil}
	for _, v := range all {
		l = append(l, chain{v})
		for _, w := range all {
			l = append(l, chain{v, w})
		}
	}
	return l
}

func TestP181AllShortLists(t *testing.T) {
	for i, l := range shortLists() {
		for _, key := range []string{"a", "b", "c"} {
			agrees(t, asked{of(kept{"b", l}), key, "c", 1, 1, 3, i%2 == 0, ""})
		}
	}
}

// shortChains are all of at most two versions that may be, of stamps up to 3, by two, and none.
func shortChains() []chain {
	l := []chain{nil}
	for _, first := range (chain{was(0, 1, "n"), gone(0, 2), was(1, 1, "a"), gone(1, 2), was(2, 2, ""), gone(2, 1), was(3, 1, "c"), gone(3, 2)}) {
		l = append(l, chain{first})
		for _, second := range (chain{was(1, 2, "a"), gone(1, 1), was(2, 1, "b"), gone(2, 2)}) {
			if first.Stamp == 0 || first.Stamp > second.Stamp {
				l = append(l, chain{first, second})
			}
		}
	}
	return l
}

// All pairs of short chains, of keys that rise, and with one of them or none.
func TestP181AllPairsOfShortChains(t *testing.T) {
	chains := shortChains()
	for _, a := range chains {
		for _, b := range chains {
			var c gc.Chains
			if a != nil {
				c = with(c, "a", a...)
			}
			if b != nil {
				c = with(c, "b", b...)
			}
			for snap := range 5 {
				for txn := range 4 {
					agrees(t, asked{c, "a", "b", snap - 1, txn, snap, false, "w"})
					agrees(t, asked{c, "b", "", snap, txn, snap + 1, true, ""})
					agrees(t, asked{c, "aa", "a", snap, txn, 4 - snap, snap%2 == 0, ""})
				}
			}
		}
	}
	if len(chains) < 25 {
		t.Error("just", len(chains), "chains")
	}
}

// All lists of at most three keys of a few: those that do not rise may not be.
func TestP181AllShortListsOfKeys(t *testing.T) {
	keys := []string{"", "\x00", "a", "a\x00", "b", "\xff"}
	l := [][]string{nil}
	for at := 0; at < len(l); at++ {
		var c gc.Chains
		for i, key := range l[at] {
			c.Keys = append(c.Keys, key)
			c.Lists = append(c.Lists, chain{was(i, 1+i%2, "v")})
		}
		for i, key := range keys {
			agrees(t, asked{c, key, keys[5-i], i % 3, 1 + i%3, 4, false, "w"})
			agrees(t, asked{c, key, keys[(i+1)%6], i % 3, 1 + i%3, 4, false, "w"})
		}
		if len(l[at]) == 3 {
			continue
		}
		for _, key := range keys {
			l = append(l, append(slices.Clone(l[at]), key))
		}
	}
}
