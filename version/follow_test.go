package version_test

import (
	"fmt"
	"math"
	"testing"

	"switchback/api"
	"switchback/version"
)

// seesAlike: what txn sees of both chains is one thing. That a key is gone may be told by no version.
func seesAlike(t *testing.T, what string, l, left chain, snap, txn int) {
	t.Helper()
	v, is, stamp, err := version.See(l, snap, txn)
	w, still, later, errp := version.See(left, snap, txn)
	if v != w || is != still || err != api.OK || errp != api.OK || stamp != later && (is || later != 0) {
		t.Errorf("%s: %s and %s: snap %d, txn %d sees %.20q, %t, %d, %d, and then %.20q, %t, %d, %d", what, brief(l), brief(left), snap, txn, v, is, stamp, err, w, still, later, errp)
	}
}

// writesAlike: who is refused of the one chain is refused of the other, but for want of room.
func writesAlike(t *testing.T, what string, l, left chain, snap, txn int) {
	t.Helper()
	_, err := version.Write(l, snap, txn, false, "w")
	_, errp := version.Write(left, snap, txn, false, "w")
	if err != errp && err != api.ErrFull {
		t.Errorf("%s: %s and %s: Write of snap %d, txn %d = %d, and then %d", what, brief(l), brief(left), snap, txn, err, errp)
	}
}

func TestP153AllShortChains(t *testing.T) {
	for _, l := range shortChains() {
		for horizon := -1; horizon <= 6; horizon++ {
			left, err := version.Prune(l, horizon)
			if err != api.OK || version.Check(left) != api.OK || len(left) > len(l) {
				t.Fatalf("Prune(%s, %d) = %s, %d", brief(l), horizon, brief(left), err)
			}
			for snap := horizon; snap <= 6; snap++ {
				for txn := range 4 {
					seesAlike(t, fmt.Sprint("horizon ", horizon), l, left, snap, txn)
					writesAlike(t, fmt.Sprint("horizon ", horizon), l, left, snap, txn)
				}
			}
		}
	}
}

func TestP153RolledChains(t *testing.T) {
	next := rolled(153)
	for range 8000 {
		l := rolledChain(next)
		horizon := l[next(len(l))].Stamp + next(3) - 1
		left, err := version.Prune(l, horizon)
		if err != api.OK {
			t.Fatalf("Prune(%s, %d) = %d", brief(l), horizon, err)
		}
		for range 10 {
			snap := max(horizon, l[next(len(l))].Stamp+next(3)-1)
			seesAlike(t, fmt.Sprint("horizon ", horizon), l, left, snap, 1+next(6))
			writesAlike(t, fmt.Sprint("horizon ", horizon), l, left, snap, 1+next(6))
		}
		seesAlike(t, "greatest snap", l, left, math.MaxInt, l[0].Txn)
	}
}

// writes is a Write that may not be refused.
func writes(t *testing.T, l chain, snap, txn int, isGone bool) chain {
	t.Helper()
	next, err := version.Write(l, snap, txn, isGone, "")
	if err != api.OK {
		t.Fatalf("Write(%s, %d, %d, %t) = %d", brief(l), snap, txn, isGone, err)
	}
	return next
}

// Refused are all who have that snapshot, but the writer as long as it has not committed.
func TestP154TheSecondIsRefused(t *testing.T) {
	for _, l := range shortChains() {
		first := 0
		if len(l) > 0 {
			first = l[0].Stamp
		}
		if len(l) > 0 && first == 0 {
			continue // somebody writes it already
		}
		for snap := first; snap <= 5; snap++ {
			for _, isGone := range []bool{false, true} {
				one := writes(t, l, snap, 8, isGone)
				next, err := version.Write(one, snap, 9, !isGone, "")
				refused(t, "beside "+brief(one), next, err, api.ErrConflict)
				one = writes(t, one, snap, 8, isGone)
				undone, _ := version.Undo(one, 8)
				writes(t, undone, snap, 9, isGone)
				for stamp := snap + 1; stamp <= snap+2; stamp++ {
					done, err := version.Commit(one, 8, stamp)
					if err != api.OK {
						t.Fatalf("Commit(%s, 8, %d) = %d", brief(one), stamp, err)
					}
					// Whose snapshot is from the horizon on is refused behind Prune, too.
					for horizon := -1; horizon <= snap; horizon++ {
						left, _ := version.Prune(done, horizon)
						for txn := 7; txn <= 9; txn++ {
							next, err = version.Write(left, snap, txn, !isGone, "")
							refused(t, "behind "+brief(left), next, err, api.ErrConflict)
						}
					}
					writes(t, done, stamp, 9, isGone)
				}
			}
		}
	}
}

// A writer has a snapshot, and what it wrote, if it did.
type writer struct {
	snap, end int
	wrote     bool
	value     string
	isGone    bool
}

// told is what ought to be seen: what it wrote itself, or what the last one wrote that had ended then.
func told(all []writer, id int) (string, bool) {
	w := all[id-1]
	if !w.wrote {
		for _, x := range all {
			if x.wrote && x.end > w.end && x.end <= all[id-1].snap {
				w = x
			}
		}
	}
	return w.value, w.wrote && !w.isGone
}

// Many who write one key, several at a time, while it is pruned: each sees what had been committed as it began, and of those that wrote and committed each had seen the one ahead of it.
func TestP154OneKeyByMany(t *testing.T) {
	next := rolled(154)
	conflicts, commits, prunes := 0, 0, 0
	for range 400 {
		var l chain
		var all []writer
		var active []int
		clock, last := 0, 0
		for range 150 {
			if len(active) == 0 || len(active) < 5 && next(4) == 0 {
				all = append(all, writer{snap: clock})
				active = append(active, len(all))
			}
			at := next(len(active))
			id := active[at]
			w := &all[id-1]
			switch next(5) {
			case 0:
				value, isGone := octets(1+next(9)), false
				if next(3) == 0 {
					value, isGone = "", true
				}
				after, err := version.Write(l, w.snap, id, isGone, value)
				switch {
				case err == api.OK:
					l = after
					w.wrote, w.value, w.isGone = true, value, isGone
				case err != api.ErrConflict || w.wrote || w.snap >= last && (len(l) == 0 || l[0].Stamp > 0):
					t.Fatalf("Write(%s, %d, %d) = %d", brief(l), w.snap, id, err)
				default:
					conflicts++
				}
			case 1:
				clock++
				after, err := version.Commit(l, id, clock)
				if (err == api.OK) != w.wrote || err != api.OK && err != api.ErrNone {
					t.Fatalf("Commit(%s, %d, %d) = %d", brief(l), id, clock, err)
				}
				if err == api.OK {
					if w.snap < last {
						t.Fatalf("%d of snap %d wrote over %s", id, w.snap, brief(l))
					}
					l, last = after, clock
					commits++
				}
				w.end = clock
				active = append(active[:at], active[at+1:]...)
			case 2:
				if next(3) == 0 {
					l, _ = version.Undo(l, id)
					*w = writer{snap: w.snap}
					active = append(active[:at], active[at+1:]...)
				}
			case 3:
				horizon := clock
				for _, id := range active {
					horizon = min(horizon, all[id-1].snap)
				}
				was := len(l)
				l, _ = version.Prune(l, horizon)
				prunes += was - len(l)
			}
			for _, id := range active {
				value, is := told(all, id)
				if v, i, _, err := version.See(l, all[id-1].snap, id); v != value || i != is || err != api.OK {
					t.Fatalf("See(%s, %d, %d) = %q, %t, %d, not %q, %t", brief(l), all[id-1].snap, id, v, i, err, value, is)
				}
			}
		}
	}
	if min(conflicts, commits, prunes) < 2000 {
		t.Error("just", conflicts, "conflicts,", commits, "commits,", prunes, "versions that went")
	}
}
