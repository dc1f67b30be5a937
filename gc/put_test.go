package gc_test

import (
	"fmt"
	"math"
	"slices"
	"testing"

	"switchback/api"
	"switchback/gc"
)

// The errors of Put in their order: ErrName, those of version.Write (ErrRange, ErrLong, ErrConflict, ErrFull), ErrFull.
func TestP181PutErrorsInTheirOrder(t *testing.T) {
	long := octets(1025)
	full := with(many(2047), "k", falling(64, 1)...)
	open := with(many(2047), "k", was(0, 7, "v"))
	for _, c := range []gc.Chains{{}, some(), full, open, with(some(), long, was(0, 7, "v"))} {
		for _, txn := range []int{0, 1, most + 1, math.MinInt} {
			for _, value := range []string{"", "v", octets(4097)} {
				for _, key := range []string{long, octets(2000)} {
					next, err := gc.Put(c, key, 0, txn, value != "", value)
					refused(t, "a long key", next, err, api.ErrName)
				}
				for _, key := range []string{"k", "a", "new", octets(1024)} {
					if txn == 1 {
						continue
					}
					next, err := gc.Put(c, key, 0, txn, value != "", value)
					refused(t, fmt.Sprint("txn ", txn), next, err, api.ErrRange)
				}
			}
		}
		for _, key := range []string{"k", "a", "b", "new"} {
			next, err := gc.Put(c, key, 0, 1, false, octets(4097))
			refused(t, "a long value", next, err, api.ErrLong)
			next, err = gc.Put(c, key, 0, 1, true, "v")
			refused(t, "gone with a value", next, err, api.ErrLong)
		}
	}
	for _, isGone := range []bool{false, true} {
		next, err := gc.Put(full, "k", 639, 2, isGone, "")
		refused(t, "above snap, of 64", next, err, api.ErrConflict)
		next, err = gc.Put(full, "k", 640, 2, isGone, "")
		refused(t, "64 versions", next, err, api.ErrFull)
		next, err = gc.Put(open, "k", 9, 2, isGone, "")
		refused(t, "another one's", next, err, api.ErrConflict)
		next, err = gc.Put(open, "l", 9, 2, isGone, "")
		refused(t, "a new key, of 2048", next, err, api.ErrFull)
	}
}

func TestP181PutRefuses(t *testing.T) {
	for _, c := range []struct {
		what, key string
		snap, txn int
		err       api.Errno
	}{
		{"above snap", "a", 8, 9, api.ErrConflict},
		{"above snap, its own", "a", 8, 3, api.ErrConflict},
		{"above a least snap", "a", math.MinInt, 9, api.ErrConflict},
		{"on snap", "a", 9, 9, api.OK},
		{"above a Gone one", "c", 6, 9, api.ErrConflict},
		{"on a Gone one", "c", 7, 9, api.OK},
		{"another one's", "b", 9, 5, api.ErrConflict},
		{"another one's, of whom is next", "b", 9, 2, api.ErrConflict},
		{"its own", "b", 0, 4, api.OK},
		{"its own Gone one", "d", 0, 5, api.OK},
		{"another one's Gone one", "d", 9, 4, api.ErrConflict},
		{"its own alone", "f", 0, 4, api.OK},
		{"another one's alone", "f", 9, 3, api.ErrConflict},
		{"new, least snap", "g", math.MinInt, 9, api.OK},
		{"new, greatest txn", "", 9, most, api.OK},
	} {
		for _, isGone := range []bool{false, true} {
			next, err := gc.Put(some(), c.key, c.snap, c.txn, isGone, "")
			if err != c.err || (err == api.OK) != (len(next.Keys) > 0) {
				t.Errorf("%s: Put(%q, %d, %d) = %s, %d, not %d", c.what, c.key, c.snap, c.txn, brief(next), err, c.err)
			}
		}
	}
}

// Of a key that is there its chain alone is another one.
func TestP181PutOfOldKeys(t *testing.T) {
	c := some()
	next, err := gc.Put(c, "a", 9, 8, false, "new")
	tells(t, "a", next, err, with(c, "a", was(0, 8, "new"), was(9, 3, "a9"), was(5, 2, "a5"), was(2, 1, "a2")))
	next, err = gc.Put(c, "a", 20, 3, true, "")
	tells(t, "a gone", next, err, with(c, "a", gone(0, 3), was(9, 3, "a9"), was(5, 2, "a5"), was(2, 1, "a2")))
	next, err = gc.Put(c, "b", 0, 4, false, "other")
	tells(t, "b, its own", next, err, with(c, "b", was(0, 4, "other"), was(6, 2, "b6")))
	next, err = gc.Put(c, "b", 0, 4, true, "")
	tells(t, "b, its own, gone", next, err, with(c, "b", gone(0, 4), was(6, 2, "b6")))
	next, err = gc.Put(c, "c", 7, 8, false, "back")
	tells(t, "c back", next, err, with(c, "c", was(0, 8, "back"), gone(7, 3), was(3, 1, "c3")))
	next, err = gc.Put(c, "d", 0, 5, false, "")
	tells(t, "d, its own", next, err, with(c, "d", was(0, 5, ""), was(4, 2, "d4")))
	next, err = gc.Put(c, "f", -5, 4, true, "")
	tells(t, "f, the last one, gone", next, err, with(c, "f", gone(0, 4)))
}

func TestP181PutOfNewKeys(t *testing.T) {
	for _, key := range []string{"", "\x00", "A", "a\x00", "aa", "bb", "ee", "e\xff", "g", "\xff", octets(1), octets(1023), octets(1024)} {
		for _, snap := range append([]int{0, 1, most}, extremes...) {
			for _, c := range []gc.Chains{{}, {Keys: []string{}, Lists: []chain{}}, some(), many(300)} {
				next, err := gc.Put(c, key, snap, 8, false, "new")
				tells(t, fmt.Sprintf("%.20q", key), next, err, with(c, key, was(0, 8, "new")))
				next, err = gc.Put(c, key, snap, 8, true, "")
				tells(t, fmt.Sprintf("%.20q, gone", key), next, err, with(c, key, gone(0, 8)))
			}
		}
	}
	for _, n := range []int{1025, 1026, 9000} {
		next, err := gc.Put(some(), octets(n), 9, 8, false, "new")
		refused(t, fmt.Sprint(n, " octets"), next, err, api.ErrName)
		next, err = gc.Put(gc.Chains{}, "é"+octets(n-2), 9, 8, false, "new")
		refused(t, fmt.Sprint(n, " octets, fewer letters"), next, err, api.ErrName)
	}
}

func TestP181PutValuesAndTxns(t *testing.T) {
	for _, key := range []string{"a", "g"} {
		for _, n := range []int{0, 1, 4095, 4096} {
			next, err := gc.Put(some(), key, 9, 8, false, octets(n))
			at := slices.Index(next.Keys, key)
			if err != api.OK || at < 0 || next.Lists[at][0] != was(0, 8, octets(n)) {
				t.Errorf("%d octets: Put = %s, %d", n, brief(next), err)
			}
		}
		for _, txn := range []int{1, 2, most - 1, most} {
			next, err := gc.Put(some(), key, 9, txn, false, "w")
			at := slices.Index(next.Keys, key)
			if err != api.OK || at < 0 || next.Lists[at][0] != was(0, txn, "w") {
				t.Errorf("txn %d: Put = %s, %d", txn, brief(next), err)
			}
		}
		for _, txn := range append([]int{0, most + 1}, extremes...) {
			next, err := gc.Put(some(), key, 9, txn, false, "w")
			refused(t, fmt.Sprint("txn ", txn), next, err, api.ErrRange)
		}
	}
}

func TestP181PutHasRoomFor2048Keys(t *testing.T) {
	for _, key := range []string{"", "00000x", "02000x", "04090x", "x"} {
		for n := 2046; n <= 2048; n++ {
			c := many(n)
			next, err := gc.Put(c, key, 1, 8, false, "new")
			if n == 2048 {
				refused(t, "a new key, of 2048", next, err, api.ErrFull)
				continue
			}
			tells(t, fmt.Sprint("a new key, of ", n), next, err, with(c, key, was(0, 8, "new")))
		}
	}
	c := many(2048)
	for _, i := range []int{0, 1, 1000, 2046, 2047} {
		next, err := gc.Put(c, c.Keys[i], 1, 8, false, "new")
		tells(t, "an old key, of 2048", next, err, with(c, c.Keys[i], was(0, 8, "new"), was(1, 1, "v")))
		next, err = gc.Put(next, c.Keys[i], 1, 8, true, "")
		tells(t, "its own, of 2048", next, err, with(c, c.Keys[i], gone(0, 8), was(1, 1, "v")))
	}
}

// Many keys one by one, in any order: each stands in its place.
func TestP181PutOneByOne(t *testing.T) {
	next := rolled(1811)
	var c, want gc.Chains
	for i := range 500 {
		key := octets(next(4)) + string(rune('a'+next(26))) + octets(next(3))
		value := octets(i % 7)
		after, err := gc.Put(c, key, 0, 3, false, value)
		want = with(want, key, was(0, 3, value))
		tells(t, fmt.Sprintf("Put(%q)", key), after, err, want)
		c = after
	}
	if len(c.Keys) < 200 {
		t.Error("just", len(c.Keys), "keys")
	}
}
