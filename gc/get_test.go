package gc_test

import (
	"fmt"
	"math"
	"slices"
	"testing"

	"switchback/api"
	"switchback/gc"
	"switchback/version"
)

// some are chains of all kinds: a has a past, b and d are open (by 4 and 5), c is gone, e has a value of no octets, f was written first and is open.
func some() gc.Chains {
	return of(
		kept{"a", chain{was(9, 3, "a9"), was(5, 2, "a5"), was(2, 1, "a2")}},
		kept{"b", chain{was(0, 4, "b0"), was(6, 2, "b6")}},
		kept{"c", chain{gone(7, 3), was(3, 1, "c3")}},
		kept{"d", chain{gone(0, 5), was(4, 2, "d4")}},
		kept{"e", chain{was(8, 3, ""), gone(1, 1)}},
		kept{"f", chain{was(0, 4, "f0")}},
	)
}

type seen struct {
	key       string
	snap, txn int
	value     string
	is        bool
	stamp     int
}

func TestP181Get(t *testing.T) {
	for _, c := range []seen{
		{"a", 1, 9, "", false, 0},
		{"a", 2, 9, "a2", true, 2},
		{"a", 4, 9, "a2", true, 2},
		{"a", 5, 9, "a5", true, 5},
		{"a", 8, 3, "a5", true, 5},
		{"a", 9, 9, "a9", true, 9},
		{"a", math.MaxInt, 9, "a9", true, 9},
		{"a", math.MinInt, 9, "", false, 0},
		{"b", 0, 4, "b0", true, 0},
		{"b", 9, 4, "b0", true, 0},
		{"b", 9, 5, "b6", true, 6},
		{"b", 5, 5, "", false, 0},
		{"c", 2, 9, "", false, 0},
		{"c", 6, 9, "c3", true, 3},
		{"c", 7, 9, "", false, 7},
		{"c", 9, 3, "", false, 7},
		{"d", 9, 5, "", false, 0},
		{"d", 9, 4, "d4", true, 4},
		{"e", 0, 9, "", false, 0},
		{"e", 7, 9, "", false, 1},
		{"e", 8, 9, "", true, 8},
		{"f", 0, 4, "f0", true, 0},
		{"f", 9, 5, "", false, 0},
		{"f", 9, 0, "", false, 0},
	} {
		if v, is, stamp, err := gc.Get(some(), c.key, c.snap, c.txn); v != c.value || is != c.is || stamp != c.stamp || err != api.OK {
			t.Errorf("Get(%q, %d, %d) = %q, %t, %d, %d, not %q, %t, %d, 0", c.key, c.snap, c.txn, v, is, stamp, err, c.value, c.is, c.stamp)
		}
	}
}

func TestP181GetOfWhatIsNotThere(t *testing.T) {
	for _, key := range []string{"", "A", "a\x00", "aa", "b ", "bb", "cc", "e\xff", "ff", "g", "\xff", octets(1024), octets(1025), octets(9000)} {
		for _, snap := range append([]int{0, 1, 9, most}, extremes...) {
			for _, txn := range append([]int{0, 1, 4, 5}, extremes...) {
				for _, c := range []gc.Chains{some(), {}, {Keys: []string{}, Lists: []chain{}}} {
					if v, is, stamp, err := gc.Get(c, key, snap, txn); v != "" || is || stamp != 0 || err != api.OK {
						t.Fatalf("Get(%.20q, %d, %d) = %q, %t, %d, %d", key, snap, txn, v, is, stamp, err)
					}
				}
			}
		}
	}
}

// Each key of many has its own versions, and none beside.
func TestP181GetOfMany(t *testing.T) {
	for _, n := range []int{1, 2, 3, 7, 2047, 2048} {
		c := many(n)
		for i := range n {
			c.Lists[i] = chain{was(1+i, 1, c.Keys[i])}
		}
		for i := range 2*n + 1 {
			key := fmt.Sprintf("%05d", i)
			value, stamp := "", 0
			if i%2 == 0 && i < 2*n {
				value, stamp = key, 1+i/2
			}
			if n > 100 && i%37 > 1 && i < 2*n-3 {
				continue // some of them will do
			}
			if v, is, at, err := gc.Get(c, key, math.MaxInt, 9); v != value || is != (value != "") || at != stamp || err != api.OK {
				t.Fatalf("of %d: Get(%s) = %q, %t, %d, %d", n, key, v, is, at, err)
			}
		}
	}
}

// A key that Put refuses may be there all the same.
func TestP181GetOfALongKey(t *testing.T) {
	c := of(kept{"a", chain{was(1, 1, "v")}}, kept{octets(1025), chain{was(2, 1, "w")}})
	if v, is, stamp, err := gc.Get(c, octets(1025), 5, 9); v != "w" || !is || stamp != 2 || err != api.OK {
		t.Error("Get:", v, is, stamp, err)
	}
	l, err := gc.Range(c, "b", octets(1026), 5, 9)
	ranges(t, "long", l, err, []api.Pair{{Key: octets(1025), Value: "w"}})
}

func ranges(t *testing.T, what string, l []api.Pair, err api.Errno, want []api.Pair) {
	t.Helper()
	if !slices.Equal(l, want) || err != api.OK {
		t.Errorf("%s: Range = %.20q, %d, not %.20q, 0", what, l, err, want)
	}
}

// pairs are keys and values by turns.
func pairs(l ...string) []api.Pair {
	var all []api.Pair
	for i := 0; i < len(l); i += 2 {
		all = append(all, api.Pair{Key: l[i], Value: l[i+1]})
	}
	return all
}

func TestP181RangeOfSnapshots(t *testing.T) {
	for _, c := range []struct {
		snap, txn int
		want      []api.Pair
	}{
		{math.MinInt, 9, nil},
		{-1, 9, nil},
		{0, 9, nil},
		{1, 9, nil},
		{2, 9, pairs("a", "a2")},
		{3, 9, pairs("a", "a2", "c", "c3")},
		{4, 9, pairs("a", "a2", "c", "c3", "d", "d4")},
		{6, 9, pairs("a", "a5", "b", "b6", "c", "c3", "d", "d4")},
		{7, 9, pairs("a", "a5", "b", "b6", "d", "d4")},
		{8, 9, pairs("a", "a5", "b", "b6", "d", "d4", "e", "")},
		{9, 9, pairs("a", "a9", "b", "b6", "d", "d4", "e", "")},
		{math.MaxInt, 0, pairs("a", "a9", "b", "b6", "d", "d4", "e", "")},
		{9, 4, pairs("a", "a9", "b", "b0", "d", "d4", "e", "", "f", "f0")},
		{0, 4, pairs("b", "b0", "f", "f0")},
		{9, 5, pairs("a", "a9", "b", "b6", "e", "")},
		{4, 5, pairs("a", "a2", "c", "c3")},
	} {
		l, err := gc.Range(some(), "", "", c.snap, c.txn)
		ranges(t, fmt.Sprint("snap ", c.snap, ", txn ", c.txn), l, err, c.want)
	}
}

func TestP181RangeOfKeys(t *testing.T) {
	all := pairs("a", "a9", "b", "b6", "d", "d4", "e", "") // what 9 sees of snapshot 9
	for _, c := range []struct {
		from, to string
		want     []api.Pair
	}{
		{"", "", all},
		{"", "\xff", all},
		{"", "g", all},
		{"", "e\x00", all},
		{"", "e", all[:3]},
		{"", "dd", all[:3]},
		{"", "d", all[:2]},
		{"", "c", all[:2]},
		{"", "b", all[:1]},
		{"", "a\x00", all[:1]},
		{"", "a", nil},
		{"", "A", nil},
		{"", "\x00", nil},
		{"A", "", all},
		{"a", "", all},
		{"a\x00", "", all[1:]},
		{"b", "", all[1:]},
		{"b\x00", "", all[2:]},
		{"c", "", all[2:]},
		{"d", "", all[2:]},
		{"dd", "", all[3:]},
		{"e", "", all[3:]},
		{"e\x00", "", nil},
		{"f", "", nil},
		{"\xff", "", nil},
		{"a", "a", nil},
		{"a", "a\x00", all[:1]},
		{"a", "c", all[:2]},
		{"b", "d", all[1:2]},
		{"b", "e", all[1:3]},
		{"bb", "cc", nil},
		{"bb", "dd", all[2:3]},
		{"d", "b", nil},
		{"e", "a", nil},
		{"\xff", "a", nil},
		{octets(9000), "", nil},
		{"", octets(9000), all},
	} {
		l, err := gc.Range(some(), c.from, c.to, 9, 9)
		ranges(t, fmt.Sprintf("%.20q to %.20q", c.from, c.to), l, err, c.want)
	}
	for _, c := range []gc.Chains{{}, {Keys: []string{}, Lists: []chain{}}} {
		l, err := gc.Range(c, "", "", 9, 9)
		ranges(t, "none", l, err, nil)
	}
}

func TestP181RangeOfAKeyOfNoOctets(t *testing.T) {
	c := with(some(), "", was(1, 1, "first"))
	l, err := gc.Range(c, "", "a", 1, 9)
	ranges(t, "below a", l, err, pairs("", "first"))
	l, err = gc.Range(c, "\x00", "", 2, 9)
	ranges(t, "behind it", l, err, pairs("a", "a2"))
	l, err = gc.Range(c, "", "", 2, 9)
	ranges(t, "all", l, err, pairs("", "first", "a", "a2"))
}

func TestP181RangeOfMany(t *testing.T) {
	c := many(2048)
	for _, span := range [][2]int{{0, 4096}, {0, 0}, {1, 4095}, {2, 4094}, {777, 778}, {776, 777}, {3000, 4096}, {4094, 4095}, {4095, 4096}} {
		var want []api.Pair
		for i, key := range c.Keys {
			if 2*i >= span[0] && 2*i < span[1] {
				want = append(want, api.Pair{Key: key, Value: "v"})
			}
		}
		l, err := gc.Range(c, fmt.Sprintf("%05d", span[0]), fmt.Sprintf("%05d", span[1]), 1, 9)
		ranges(t, fmt.Sprint(span), l, err, want)
	}
}

// What Get tells of a key is what version.See tells of its chain.
func TestP181GetIsSee(t *testing.T) {
	next := rolled(181)
	for range 3000 {
		c := rolledChains(next)
		key, snap, txn := someKey(next, c), someStamp(next, c), someTxn(next, c)
		var l chain
		if at := slices.Index(c.Keys, key); at >= 0 {
			l = c.Lists[at]
		}
		w, still, later, _ := version.See(l, snap, txn)
		if v, is, stamp, err := gc.Get(c, key, snap, txn); v != w || is != still || stamp != later || err != api.OK {
			t.Fatalf("Get(%s, %q, %d, %d) = %q, %t, %d, %d, not %q, %t, %d", brief(c), key, snap, txn, v, is, stamp, err, w, still, later)
		}
	}
}
