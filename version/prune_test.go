package version_test

import (
	"fmt"
	"math"
	"testing"

	"switchback/api"
	"switchback/version"
)

type pruned struct {
	what    string
	l       chain
	horizon int
	want    chain
}

func prunes(t *testing.T, l []pruned) {
	t.Helper()
	for _, c := range l {
		what := fmt.Sprintf("%s: Prune(%s, %d)", c.what, brief(c.l), c.horizon)
		next, err := version.Prune(c.l, c.horizon)
		tells(t, what, next, err, c.want)
		again, err := version.Prune(next, c.horizon)
		tells(t, what+" once more", again, err, c.want)
		// Whoever writes at that time does not matter.
		open := append(chain{was(0, 3, "open")}, c.l...)
		next, err = version.Prune(open, c.horizon)
		tells(t, what+" behind an open one", next, err, append(chain{open[0]}, c.want...))
		open[0] = gone(0, 3)
		next, err = version.Prune(open, c.horizon)
		tells(t, what+" behind an open Gone one", next, err, append(chain{open[0]}, c.want...))
	}
}

func TestP152PruneValues(t *testing.T) {
	l := chain{was(9, 3, "c"), was(5, 2, "b"), was(2, 1, "a")}
	prunes(t, []pruned{
		{"least", l, math.MinInt, l},
		{"-1", l, -1, l},
		{"0", l, 0, l},
		{"below the last", l, 1, l},
		{"on the last", l, 2, l},
		{"above the last", l, 3, l},
		{"below the second", l, 4, l},
		{"on the second", l, 5, l[:2]},
		{"above the second", l, 6, l[:2]},
		{"below the first", l, 8, l[:2]},
		{"on the first", l, 9, l[:1]},
		{"above the first", l, 10, l[:1]},
		{"greatest", l, math.MaxInt, l[:1]},
		{"none", nil, 5, nil},
		{"empty", chain{}, math.MaxInt, nil},
		{"one, below", chain{was(5, 1, "a")}, 4, chain{was(5, 1, "a")}},
		{"one, on", chain{was(5, 1, "a")}, 5, chain{was(5, 1, "a")}},
		{"one of no octets", chain{was(5, 1, "")}, 5, chain{was(5, 1, "")}},
		{"MaxStamp, below", chain{was(most, 1, "b"), was(1, 1, "a")}, most - 1, chain{was(most, 1, "b"), was(1, 1, "a")}},
		{"MaxStamp, on", chain{was(most, 1, "b"), was(1, 1, "a")}, most, chain{was(most, 1, "b")}},
	})
}

func TestP152PruneGone(t *testing.T) {
	alone := chain{gone(5, 1)}
	several := chain{gone(9, 3), gone(5, 2), gone(2, 1)}
	between := chain{was(9, 3, "c"), gone(7, 2), was(5, 2, "b"), gone(3, 1), was(1, 1, "a")}
	prunes(t, []pruned{
		{"alone, below", alone, 4, alone},
		{"alone, on", alone, 5, nil},
		{"alone, above", alone, 6, nil},
		{"alone, greatest", alone, math.MaxInt, nil},
		{"several, below all", several, 1, several},
		{"several, on the last", several, 2, several[:2]},
		{"several, above the last", several, 4, several[:2]},
		{"several, on the second", several, 5, several[:1]},
		{"several, above the second", several, 8, several[:1]},
		{"several, on the first", several, 9, nil},
		{"several, greatest", several, math.MaxInt, nil},
		{"a value stays at the end", between, 2, between},
		{"a Gone one and what stands behind it", between, 3, between[:3]},
		{"a Gone one and what stands behind it, above", between, 4, between[:3]},
		{"a Gone one stays ahead of a value", between, 5, between[:3]},
		{"a Gone one stays ahead of a value, above", between, 6, between[:3]},
		{"values behind a Gone one", between, 7, between[:1]},
		{"values behind a Gone one, above", between, 8, between[:1]},
		{"a value ahead of a Gone one", between, 9, between[:1]},
		{"a value that is gone", chain{gone(5, 2), was(3, 1, "a")}, 5, nil},
		{"a value that is gone later", chain{gone(5, 2), was(3, 1, "a")}, 4, chain{gone(5, 2), was(3, 1, "a")}},
	})
}

// What is not yet committed stays, also Gone and alone.
func TestP152PruneNotYetCommitted(t *testing.T) {
	for _, first := range []version.Version{was(0, 4, "v"), gone(0, 4)} {
		for _, horizon := range append([]int{0, 1, most}, extremes...) {
			l, err := version.Prune(chain{first}, horizon)
			tells(t, fmt.Sprint("horizon ", horizon), l, err, chain{first})
		}
	}
}

func TestP152PruneOfMany(t *testing.T) {
	for n := range 65 {
		for _, isOpen := range []bool{false, true} {
			if n == 0 && isOpen {
				continue
			}
			l := falling(n, isOpen)
			for horizon := 5; horizon < 10*n+15; horizon += 5 {
				left := min(n, n-horizon/10+1)
				if least := min(n, 1); left < least {
					left = least
				}
				if isOpen && n > 1 {
					left = max(left, 2)
				}
				next, err := version.Prune(l, horizon)
				tells(t, fmt.Sprint(n, " versions, horizon ", horizon), next, err, l[:left])
			}
		}
	}
	if err := version.Check(falling(64, true)); err != api.OK {
		t.Error(err)
	}
}
