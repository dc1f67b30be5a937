package version_test

import (
	"math"
	"testing"

	"switchback/api"
	"switchback/version"
)

type seen struct {
	what      string
	l         chain
	snap, txn int
	value     string
	is        bool
	stamp     int
}

func sees(t *testing.T, l []seen) {
	t.Helper()
	for _, c := range l {
		if v, is, stamp, err := version.See(c.l, c.snap, c.txn); v != c.value || is != c.is || stamp != c.stamp || err != api.OK {
			t.Errorf("%s: See(%s, %d, %d) = %.20q, %t, %d, %d, not %.20q, %t, %d, 0", c.what, brief(c.l), c.snap, c.txn, v, is, stamp, err, c.value, c.is, c.stamp)
		}
	}
}

// Example 1 of the chapter, and the whole's 5.
func TestP151ExampleOne(t *testing.T) {
	sees(t, []seen{{"example", chain{was(5, 2, "b"), was(3, 1, "a")}, 4, 9, "a", true, 3}})
}

func TestP151SeeNone(t *testing.T) {
	for _, n := range append([]int{0, 1, most}, extremes...) {
		sees(t, []seen{
			{"nil", nil, n, 1, "", false, 0},
			{"empty", chain{}, n, 1, "", false, 0},
			{"any txn of none", nil, 5, n, "", false, 0},
			{"any txn that wrote nothing", chain{was(3, 7, "a")}, 5, n, "a", true, 3},
		})
	}
}

func TestP151SeeCommitted(t *testing.T) {
	l := chain{was(9, 3, "c"), was(5, 2, "b"), was(2, 1, "a")}
	sees(t, []seen{
		{"least snap", l, math.MinInt, 7, "", false, 0},
		{"snap -1", l, -1, 7, "", false, 0},
		{"snap 0", l, 0, 7, "", false, 0},
		{"below the last", l, 1, 7, "", false, 0},
		{"on the last", l, 2, 7, "a", true, 2},
		{"above the last", l, 3, 7, "a", true, 2},
		{"below the second", l, 4, 7, "a", true, 2},
		{"on the second", l, 5, 7, "b", true, 5},
		{"above the second", l, 6, 7, "b", true, 5},
		{"below the first", l, 8, 7, "b", true, 5},
		{"on the first", l, 9, 7, "c", true, 9},
		{"above the first", l, 10, 7, "c", true, 9},
		{"greatest snap", l, math.MaxInt, 7, "c", true, 9},
		{"MaxStamp below", chain{was(most, 1, "a")}, most - 1, 7, "", false, 0},
		{"MaxStamp on", chain{was(most, 1, "a")}, most, 7, "a", true, most},
		{"its own one that is committed is as another's", l, 8, 3, "b", true, 5},
		{"its own ones all", l, 1, 1, "", false, 0},
		{"a value of no octets", chain{was(5, 2, ""), was(3, 1, "a")}, 5, 7, "", true, 5},
		{"a value of 4096 octets", chain{was(5, 2, octets(4096))}, 5, 7, octets(4096), true, 5},
	})
}

func TestP151SeeNotYetCommitted(t *testing.T) {
	l := chain{was(0, 4, "new"), was(5, 2, "b"), was(2, 1, "a")}
	alone := chain{was(0, 4, "new")}
	sees(t, []seen{
		{"its own, below all", l, 1, 4, "new", true, 0},
		{"its own, in the middle", l, 3, 4, "new", true, 0},
		{"its own, above all", l, 9, 4, "new", true, 0},
		{"its own, least snap", l, math.MinInt, 4, "new", true, 0},
		{"its own, greatest snap", l, math.MaxInt, 4, "new", true, 0},
		{"its own alone", alone, 0, 4, "new", true, 0},
		{"its own of no octets", chain{was(0, 4, ""), was(2, 1, "a")}, 3, 4, "", true, 0},
		{"another one's, snap 0", l, 0, 5, "", false, 0},
		{"another one's, below", l, 1, 5, "", false, 0},
		{"another one's, in the middle", l, 4, 5, "a", true, 2},
		{"another one's, on the next", l, 5, 5, "b", true, 5},
		{"another one's, above", l, 9, 5, "b", true, 5},
		{"another one's, greatest snap", l, math.MaxInt, 5, "b", true, 5},
		{"another one's, of whom is next", l, 9, 2, "b", true, 5},
		{"another one's, txn 0", l, 9, 0, "b", true, 5},
		{"another one's alone", alone, math.MaxInt, 5, "", false, 0},
		{"another one's alone, txn 0", alone, 0, 0, "", false, 0},
		{"txn 2^40", chain{was(0, most, "new"), was(2, 1, "a")}, 3, most, "new", true, 0},
	})
}

func TestP151SeeGone(t *testing.T) {
	l := chain{was(9, 1, "c"), gone(7, 2), was(5, 3, "b"), gone(3, 4)}
	open := chain{gone(0, 6), was(5, 2, "b"), gone(2, 1)}
	sees(t, []seen{
		{"ahead of all", l, 2, 8, "", false, 0},
		{"a Gone one at the end", l, 3, 8, "", false, 3},
		{"a Gone one at the end, still", l, 4, 8, "", false, 3},
		{"behind it a value", l, 5, 8, "b", true, 5},
		{"behind it a value, still", l, 6, 8, "b", true, 5},
		{"a Gone one between", l, 7, 8, "", false, 7},
		{"a Gone one between, still", l, 8, 8, "", false, 7},
		{"above a Gone one", l, 9, 8, "c", true, 9},
		{"its own Gone one", open, 9, 6, "", false, 0},
		{"another one's Gone one", open, 9, 7, "b", true, 5},
		{"another one's Gone one, below", open, 4, 7, "", false, 2},
		{"its own ahead of a Gone one", chain{was(0, 6, "n"), gone(2, 1)}, 9, 6, "n", true, 0},
		{"another one's ahead of a Gone one", chain{was(0, 6, "n"), gone(2, 1)}, 9, 5, "", false, 2},
	})
}

// The first one that is seen counts, of 64, too.
func TestP151SeeOfMany(t *testing.T) {
	for n := 1; n <= 64; n++ {
		l := falling(n, false)
		for i := range l {
			l[i].Value = octets(i)
		}
		for snap := 0; snap <= 10*n+15; snap += 5 {
			at := n - snap/10 // the place of the one of that stamp
			want := seen{"many", l, snap, 9, "", false, 0}
			if at < n {
				at = max(at, 0)
				want.value, want.is, want.stamp = octets(at), true, 10*(n-at)
			}
			sees(t, []seen{want})
		}
	}
}
