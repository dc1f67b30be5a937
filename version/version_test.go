package version_test

import (
	"math"
	"slices"
	"strings"
	"testing"

	"switchback/api"
	"switchback/version"
)

type chain = []version.Version

const most = 1 << 40

// was is a version with a value, gone one by which the key is gone. Stamp 0: not yet committed.
func was(stamp, txn int, value string) version.Version {
	return version.Version{Stamp: stamp, Txn: txn, Value: value}
}

func gone(stamp, txn int) version.Version {
	return version.Version{Stamp: stamp, Txn: txn, Gone: true}
}

// falling is a chain of n versions, the last of Stamp 10, the one ahead of it of 20 ...; with a first one that is not yet committed, where that is asked for.
func falling(n int, isOpen bool) chain {
	var l chain
	for i := range n {
		l = append(l, was(10*(n-i), 1+i%3, "v"))
	}
	if isOpen {
		l[0].Stamp = 0
	}
	return l
}

// octets are n of them.
func octets(n int) string { return strings.Repeat("o", n) }

// extremes are numbers that no stamp and no transaction has.
var extremes = []int{math.MinInt, -most, -1, math.MaxInt}

type checked struct {
	what string
	l    chain
	err  api.Errno
}

func checks() []checked {
	no, yes := api.ErrState, api.OK
	return []checked{
		{"nil", nil, yes},
		{"empty", chain{}, yes},
		{"one", chain{was(1, 1, "v")}, yes},
		{"64", falling(64, false), yes},
		{"65", falling(65, false), no},
		{"64, the first one open", falling(64, true), yes},
		{"65, the first one open", falling(65, true), no},
		{"Stamp -1", chain{was(-1, 1, "v")}, no},
		{"Stamp least", chain{was(math.MinInt, 1, "v")}, no},
		{"Stamp -1 behind another", chain{was(3, 1, "v"), was(-1, 1, "v")}, no},
		{"Stamp -1 behind an open one", chain{was(0, 1, "v"), was(-1, 1, "v")}, no},
		{"Stamp -1 ahead of another", chain{was(-1, 1, "v"), was(3, 1, "v")}, no},
		{"Stamp 0", chain{was(0, 1, "v")}, yes},
		{"Stamp 1", chain{was(1, 1, "v")}, yes},
		{"Stamp MaxStamp - 1", chain{was(most-1, 1, "v")}, yes},
		{"Stamp MaxStamp", chain{was(most, 1, "v")}, yes},
		{"Stamp MaxStamp + 1", chain{was(most+1, 1, "v")}, no},
		{"Stamp greatest", chain{was(math.MaxInt, 1, "v")}, no},
		{"MaxStamp behind an open one", chain{was(0, 1, "v"), was(most, 1, "v")}, yes},
		{"MaxStamp + 1 behind an open one", chain{was(0, 1, "v"), was(most+1, 1, "v")}, no},
		{"falls", chain{was(5, 2, "v"), was(3, 1, "w")}, yes},
		{"falls by 1", chain{was(3, 1, "v"), was(2, 1, "v"), was(1, 1, "v")}, yes},
		{"alike", chain{was(3, 2, "v"), was(3, 1, "w")}, no},
		{"alike at the end", chain{was(5, 1, "v"), was(3, 2, "v"), was(3, 1, "w")}, no},
		{"alike behind an open one", chain{was(0, 1, "v"), was(3, 2, "v"), was(3, 1, "w")}, no},
		{"rises", chain{was(3, 1, "v"), was(5, 2, "w")}, no},
		{"rises at the end", chain{was(5, 1, "v"), was(3, 1, "v"), was(4, 2, "w")}, no},
		{"rises over one", chain{was(4, 1, "v"), was(3, 1, "v"), was(5, 2, "w")}, no},
		{"rises behind an open one", chain{was(0, 1, "v"), was(3, 1, "v"), was(5, 2, "w")}, no},
		{"the first open", chain{was(0, 1, "v"), was(3, 1, "w"), was(1, 2, "w")}, yes},
		{"the second open", chain{was(3, 1, "v"), was(0, 2, "w")}, no},
		{"the first and the second open", chain{was(0, 1, "v"), was(0, 2, "w")}, no},
		{"the first and the second open, of one", chain{was(0, 1, "v"), was(0, 1, "v")}, no},
		{"the one in the middle open", chain{was(5, 1, "v"), was(0, 2, "w"), was(3, 1, "v")}, no},
		{"the last of 64 open", append(falling(63, false), was(0, 1, "v")), no},
		{"Txn 0", chain{was(1, 0, "v")}, no},
		{"Txn -1", chain{was(1, -1, "v")}, no},
		{"Txn least", chain{was(1, math.MinInt, "v")}, no},
		{"Txn 0, open", chain{was(0, 0, "v")}, no},
		{"Txn 1", chain{was(1, 1, "v")}, yes},
		{"Txn 2^40", chain{was(1, most, "v")}, yes},
		{"Txn 2^40, open", chain{was(0, most, "v")}, yes},
		{"Txn 2^40 + 1", chain{was(1, most+1, "v")}, no},
		{"Txn greatest", chain{was(1, math.MaxInt, "v")}, no},
		{"Txn 0 behind another", chain{was(2, 1, "v"), was(1, 0, "v")}, no},
		{"Txn 2^40 + 1 behind another", chain{was(2, 1, "v"), was(1, most+1, "v")}, no},
		{"Txns of any order, and alike", chain{was(4, 2, "v"), was(3, 9, "v"), was(2, 9, "v"), was(1, 1, "v")}, yes},
		{"Gone", chain{gone(1, 1)}, yes},
		{"Gone, open", chain{gone(0, 1)}, yes},
		{"Gone several times", chain{gone(0, 1), gone(2, 1), gone(1, 1)}, yes},
		{"Gone with a Value", chain{{Stamp: 1, Txn: 1, Gone: true, Value: "v"}}, no},
		{"Gone with a Value, open", chain{{Txn: 1, Gone: true, Value: "v"}}, no},
		{"Gone with a Value of an octet 0, the last", chain{was(2, 1, "v"), {Stamp: 1, Txn: 1, Gone: true, Value: "\x00"}}, no},
		{"no Value, not Gone", chain{was(1, 1, "")}, yes},
		{"Value of 4096 octets", chain{was(1, 1, octets(4096))}, yes},
		{"Value of 4097 octets", chain{was(1, 1, octets(4097))}, no},
		{"Value of 4096 octets, open", chain{was(0, 1, octets(4096))}, yes},
		{"Value of 4097 octets, open", chain{was(0, 1, octets(4097))}, no},
		{"Value of 4097 octets, the last", chain{was(2, 1, "v"), was(1, 1, octets(4097))}, no},
		{"octets, not letters, are counted", chain{was(1, 1, strings.Repeat("é", 2049))}, no},
		{"a version of nothing", chain{{}}, no},
	}
}

func TestP151Check(t *testing.T) {
	for _, c := range checks() {
		if err := version.Check(c.l); err != c.err {
			t.Errorf("%s: Check = %d, not %d", c.what, err, c.err)
		}
	}
}

// Whatever else is wrong, or right: Check's error is told, and nothing beside it.
func TestP151CheckGoesFirst(t *testing.T) {
	for _, c := range checks() {
		if c.err == api.OK {
			continue
		}
		for _, n := range []int{0, 1, 5, most, math.MinInt, math.MaxInt} {
			if v, is, stamp, err := version.See(c.l, n, 1); v != "" || is || stamp != 0 || err != api.ErrState {
				t.Errorf("%s: See = %q, %t, %d, %d", c.what, v, is, stamp, err)
			}
			for _, txn := range []int{0, 1, 2, most + 1} {
				for _, value := range []string{"", "v", octets(4097)} {
					l, err := version.Write(c.l, n, txn, n == 0, value)
					refused(t, c.what+": Write", l, err, api.ErrState)
				}
				l, err := version.Commit(c.l, txn, n)
				refused(t, c.what+": Commit", l, err, api.ErrState)
				l, err = version.Undo(c.l, txn)
				refused(t, c.what+": Undo", l, err, api.ErrState)
			}
			l, err := version.Prune(c.l, n)
			refused(t, c.what+": Prune", l, err, api.ErrState)
		}
	}
}

func refused(t *testing.T, what string, l chain, err, want api.Errno) {
	t.Helper()
	if len(l) != 0 || err != want {
		t.Errorf("%s = %s, %d, not none, %d", what, brief(l), err, want)
	}
}

func tells(t *testing.T, what string, l chain, err api.Errno, want chain) {
	t.Helper()
	if !slices.Equal(l, want) || err != api.OK {
		t.Errorf("%s = %s, %d, not %s, 0", what, brief(l), err, brief(want))
	}
}
