package version_test

import (
	"fmt"
	"math"
	"slices"
	"testing"

	"switchback/api"
	"switchback/version"
)

// The errors of Write in their order: ErrRange, ErrLong, ErrConflict, ErrFull. Of each chain is named which of the last two is its own.
func TestP151WriteErrorsInTheirOrder(t *testing.T) {
	chains := []struct {
		what string
		l    chain
		snap int
		err  api.Errno
	}{
		{"none", nil, 0, api.OK},
		{"another's, open", chain{was(0, 7, "a")}, 100, api.ErrConflict},
		{"above snap", chain{was(5, 7, "a")}, 4, api.ErrConflict},
		{"64", falling(64, false), 640, api.ErrFull},
		{"64, above snap", falling(64, false), 639, api.ErrConflict},
		{"64, another's, open", falling(64, true), 1000, api.ErrConflict},
	}
	for _, c := range chains {
		for _, txn := range []int{0, -1, math.MinInt, most + 1, math.MaxInt} {
			for _, value := range []string{"", "v", octets(4097)} {
				for _, isGone := range []bool{false, true} {
					l, err := version.Write(c.l, c.snap, txn, isGone, value)
					refused(t, fmt.Sprint(c.what, ", txn ", txn), l, err, api.ErrRange)
				}
			}
		}
		for _, txn := range []int{2, 9, most} {
			l, err := version.Write(c.l, c.snap, txn, false, octets(4097))
			refused(t, c.what+", 4097 octets", l, err, api.ErrLong)
			for _, value := range []string{"v", "\x00", octets(4096), octets(4097)} {
				l, err = version.Write(c.l, c.snap, txn, true, value)
				refused(t, c.what+", gone with a value", l, err, api.ErrLong)
			}
			for _, isGone := range []bool{false, true} {
				l, err = version.Write(c.l, c.snap, txn, isGone, "")
				if err != c.err || (err == api.OK) != (len(l) > 0) {
					t.Errorf("%s, txn %d: Write = %s, %d, not %d", c.what, txn, brief(l), err, c.err)
				}
			}
		}
	}
}

func TestP151WriteTxns(t *testing.T) {
	for _, txn := range []int{1, 2, most - 1, most} {
		l, err := version.Write(nil, 0, txn, false, "v")
		tells(t, "of none", l, err, chain{was(0, txn, "v")})
		l, err = version.Write(chain{was(3, 1, "a")}, 3, txn, true, "")
		tells(t, "gone", l, err, chain{gone(0, txn), was(3, 1, "a")})
	}
	for _, txn := range []int{0, most + 1} {
		l, err := version.Write(nil, 0, txn, false, "v")
		refused(t, fmt.Sprint("txn ", txn), l, err, api.ErrRange)
	}
}

func TestP151WriteValues(t *testing.T) {
	for _, n := range []int{0, 1, 4095, 4096} {
		l, err := version.Write(nil, 0, 1, false, octets(n))
		tells(t, fmt.Sprint(n, " octets"), l, err, chain{was(0, 1, octets(n))})
		l, err = version.Write(chain{was(0, 1, "a")}, 0, 1, false, octets(n))
		tells(t, fmt.Sprint(n, " octets, changed"), l, err, chain{was(0, 1, octets(n))})
	}
	for _, n := range []int{4097, 5000} {
		l, err := version.Write(nil, 0, 1, false, octets(n))
		refused(t, fmt.Sprint(n, " octets"), l, err, api.ErrLong)
		l, err = version.Write(chain{was(0, 1, "a")}, 0, 1, false, octets(n))
		refused(t, fmt.Sprint(n, " octets, changed"), l, err, api.ErrLong)
	}
	l, err := version.Write(chain{was(0, 1, "a")}, 0, 1, true, "a")
	refused(t, "gone with a value, changed", l, err, api.ErrLong)
}

// The first is not yet committed, and txn's own: it is changed, and stays one, whatever the snapshot is.
func TestP151WriteChangesItsOwn(t *testing.T) {
	for _, behind := range []chain{nil, {was(5, 3, "b")}, {gone(5, 4), was(2, 4, "a")}} {
		for _, own := range []version.Version{was(0, 4, "own"), was(0, 4, ""), gone(0, 4)} {
			l := append(chain{own}, behind...)
			for _, snap := range []int{math.MinInt, -1, 0, 2, 4, 5, 6, math.MaxInt} {
				next, err := version.Write(l, snap, 4, false, "new")
				tells(t, "changed", next, err, append(chain{was(0, 4, "new")}, behind...))
				next, err = version.Write(l, snap, 4, false, "")
				tells(t, "changed to no octets", next, err, append(chain{was(0, 4, "")}, behind...))
				next, err = version.Write(l, snap, 4, true, "")
				tells(t, "gone", next, err, append(chain{gone(0, 4)}, behind...))
				next, err = version.Write(l, snap, 5, false, "new")
				refused(t, "another one's", next, err, api.ErrConflict)
				next, err = version.Write(l, snap, 3, true, "")
				refused(t, "another one's, gone", next, err, api.ErrConflict)
			}
		}
	}
}

func TestP151WriteOverCommitted(t *testing.T) {
	for _, first := range []version.Version{was(5, 3, "b"), gone(5, 3)} {
		for _, l := range []chain{{first}, {first, was(4, 6, "a")}, {first, gone(2, 2), was(1, 1, "a")}} {
			for _, txn := range []int{7, 6, 3} {
				for _, snap := range []int{math.MinInt, -1, 0, 2, 3, 4} {
					next, err := version.Write(l, snap, txn, false, "new")
					refused(t, fmt.Sprint("snap ", snap), next, err, api.ErrConflict)
					next, err = version.Write(l, snap, txn, true, "")
					refused(t, fmt.Sprint("gone, snap ", snap), next, err, api.ErrConflict)
				}
				for _, snap := range []int{5, 6, most, math.MaxInt} {
					next, err := version.Write(l, snap, txn, false, "new")
					tells(t, fmt.Sprint("snap ", snap), next, err, append(chain{was(0, txn, "new")}, l...))
					next, err = version.Write(l, snap, txn, true, "")
					tells(t, fmt.Sprint("gone, snap ", snap), next, err, append(chain{gone(0, txn)}, l...))
				}
			}
		}
	}
}

// Of no versions any snapshot will do; a Gone one may be the first.
func TestP151WriteOfNone(t *testing.T) {
	for _, snap := range append([]int{0, 1, most}, extremes...) {
		for _, l := range []chain{nil, {}} {
			next, err := version.Write(l, snap, 1, false, "v")
			tells(t, fmt.Sprint("snap ", snap), next, err, chain{was(0, 1, "v")})
			next, err = version.Write(l, snap, 1, true, "")
			tells(t, fmt.Sprint("gone, snap ", snap), next, err, chain{gone(0, 1)})
		}
	}
}

func TestP151WriteHasRoomFor64(t *testing.T) {
	for _, n := range []int{1, 62, 63} {
		l := falling(n, false)
		next, err := version.Write(l, 10*n, 9, false, "new")
		tells(t, fmt.Sprint(n, " versions"), next, err, append(chain{was(0, 9, "new")}, l...))
	}
	full := falling(64, false)
	next, err := version.Write(full, 640, 9, false, "new")
	refused(t, "64 versions", next, err, api.ErrFull)
	next, err = version.Write(full, math.MaxInt, full[0].Txn, true, "")
	refused(t, "64 versions, the first one committed by it", next, err, api.ErrFull)
	own := falling(64, true)
	next, err = version.Write(own, 0, own[0].Txn, false, "new")
	want := slices.Clone(own)
	want[0].Value = "new"
	tells(t, "64 versions, the first its own", next, err, want)
	next, err = version.Write(own, 640, own[0].Txn, true, "")
	want[0].Gone, want[0].Value = true, ""
	tells(t, "64 versions, the first its own, gone", next, err, want)
	next, err = version.Write(own, 640, own[0].Txn+1, true, "")
	refused(t, "64 versions, the first another one's", next, err, api.ErrConflict)
}
