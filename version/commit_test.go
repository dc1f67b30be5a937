package version_test

import (
	"fmt"
	"math"
	"slices"
	"testing"

	"switchback/api"
	"switchback/version"
)

// ErrNone goes ahead of ErrRange.
func TestP152CommitErrorsInTheirOrder(t *testing.T) {
	for what, l := range map[string]chain{
		"nil":                    nil,
		"empty":                  {},
		"another one's":          {was(0, 7, "v")},
		"another one's, of two":  {was(0, 7, "v"), was(5, 4, "v")},
		"committed":              {was(5, 4, "v")},
		"committed, of two":      {was(5, 4, "v"), was(3, 4, "v")},
		"committed, Gone":        {gone(5, 4)},
		"committed by another":   {was(5, 7, "v"), was(3, 4, "v")},
		"64, all are committed":  falling(64, false),
		"64, another one's open": append(chain{was(0, 7, "v")}, falling(63, false)...),
	} {
		for _, stamp := range append([]int{0, 1, 3, 5, 6, 1000, most, most + 1}, extremes...) {
			next, err := version.Commit(l, 4, stamp)
			refused(t, fmt.Sprint(what, ", stamp ", stamp), next, err, api.ErrNone)
		}
	}
	for _, txn := range append([]int{0, most + 1}, extremes...) {
		next, err := version.Commit(chain{was(0, 7, "v")}, txn, 5)
		refused(t, fmt.Sprint("txn ", txn), next, err, api.ErrNone)
	}
}

func TestP152CommitStamps(t *testing.T) {
	for _, first := range []version.Version{was(0, 4, "new"), was(0, 4, ""), gone(0, 4), was(0, 4, octets(4096))} {
		for _, c := range []struct {
			behind chain
			least  int
		}{
			{nil, 1},
			{chain{was(1, 1, "a")}, 2},
			{chain{was(5, 4, "b"), was(2, 1, "a")}, 6},
			{chain{gone(5, 3), gone(4, 4)}, 6},
			{chain{was(most-1, 1, "a")}, most},
			{chain{was(most, 1, "a")}, most + 1},
			{falling(63, false), 631},
		} {
			l := append(chain{first}, c.behind...)
			for _, stamp := range append([]int{0, 1, c.least - 2, c.least - 1, c.least, c.least + 1, most - 1, most, most + 1}, extremes...) {
				what := fmt.Sprintf("Commit(%s, 4, %d)", brief(l), stamp)
				next, err := version.Commit(l, 4, stamp)
				if stamp < c.least || stamp > most {
					refused(t, what, next, err, api.ErrRange)
					continue
				}
				want := slices.Clone(l)
				want[0].Stamp = stamp
				tells(t, what, next, err, want)
			}
		}
	}
}

func TestP152CommitTxns(t *testing.T) {
	for _, txn := range []int{1, 2, most} {
		l, err := version.Commit(chain{was(0, txn, "v")}, txn, 1)
		tells(t, fmt.Sprint("txn ", txn), l, err, chain{was(1, txn, "v")})
		l, err = version.Commit(l, txn, 2)
		refused(t, fmt.Sprint("txn ", txn, " once more"), l, err, api.ErrNone)
	}
}

func TestP152Undo(t *testing.T) {
	behind := chain{was(5, 4, "b"), gone(2, 7)}
	for _, first := range []version.Version{was(0, 4, "new"), was(0, 4, ""), gone(0, 4)} {
		l, err := version.Undo(append(chain{first}, behind...), 4)
		tells(t, "its own", l, err, behind)
		l, err = version.Undo(l, 4)
		tells(t, "once more", l, err, behind)
		l, err = version.Undo(chain{first}, 4)
		tells(t, "its own alone", l, err, nil)
		for _, txn := range append([]int{0, 1, 7, most, most + 1}, extremes...) {
			whole := append(chain{first}, behind...)
			l, err = version.Undo(whole, txn)
			tells(t, fmt.Sprint("another one's, txn ", txn), l, err, whole)
		}
	}
	for _, txn := range append([]int{0, 1, 4, 7, most, most + 1}, extremes...) {
		for _, l := range []chain{nil, {}, behind, {was(1, 4, "a")}, {gone(1, 4)}, falling(64, false)} {
			next, err := version.Undo(l, txn)
			tells(t, fmt.Sprint("committed, or none, txn ", txn), next, err, l)
		}
	}
	full := falling(64, true)
	l, err := version.Undo(full, full[0].Txn)
	tells(t, "64", l, err, full[1:])
	l, err = version.Undo(chain{was(0, most, "v"), was(1, most, "v")}, most)
	tells(t, "txn 2^40", l, err, chain{was(1, most, "v")})
}

// What was written and undone has left nothing.
func TestP152UndoOfWrite(t *testing.T) {
	for n := range 64 {
		l := falling(n, false)
		for _, isGone := range []bool{false, true} {
			next, err := version.Write(l, 10*n, 9, isGone, "")
			if err != api.OK {
				t.Fatal(n, err)
			}
			next, err = version.Write(next, 0, 9, !isGone, "")
			if err != api.OK || len(next) != n+1 {
				t.Fatal(n, err)
			}
			next, err = version.Undo(next, 9)
			tells(t, fmt.Sprint(n, " versions"), next, err, l)
		}
	}
	if l, err := version.Undo(nil, math.MaxInt); len(l) != 0 || err != api.OK {
		t.Error("of none:", brief(l), err)
	}
}
