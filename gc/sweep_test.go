package gc_test

import (
	"fmt"
	"math"
	"testing"

	"switchback/api"
	"switchback/gc"
)

func sweeps(t *testing.T, what string, c gc.Chains, horizon int, want gc.Chains, count int) {
	t.Helper()
	what = fmt.Sprintf("%s: Sweep(%s, %d)", what, brief(c), horizon)
	next, went, err := gc.Sweep(c, horizon)
	tells(t, what, next, err, want)
	if went != count {
		t.Errorf("%s: %d went, not %d", what, went, count)
	}
	next, went, err = gc.Sweep(next, horizon)
	tells(t, what+" once more", next, err, want)
	if went != 0 {
		t.Errorf("%s once more: %d went", what, went)
	}
}

// Example 1 of the chapter.
func TestP182ExampleOne(t *testing.T) {
	var c gc.Chains
	for stamp := 1; stamp <= 2; stamp++ {
		next, err := gc.Put(c, "k", stamp-1, stamp, false, octets(stamp))
		if err != api.OK {
			t.Fatal("Put:", err)
		}
		if c, err = gc.Commit(next, stamp, stamp); err != api.OK {
			t.Fatal("Commit:", err)
		}
	}
	sweeps(t, "example", c, 2, of(kept{"k", chain{was(2, 2, "oo")}}), 1)
}

func TestP182SweepOfHorizons(t *testing.T) {
	c := some()
	for _, x := range []struct {
		horizons []int
		want     gc.Chains
		count    int
	}{
		{[]int{math.MinInt, -1, 0}, c, 0},
		{[]int{1, 2, 3, 4}, with(c, "e", was(8, 3, "")), 1},
		{[]int{5, 6}, with(with(c, "e", was(8, 3, "")), "a", was(9, 3, "a9"), was(5, 2, "a5")), 2},
		{[]int{7, 8}, without(with(with(c, "e", was(8, 3, "")), "a", was(9, 3, "a9"), was(5, 2, "a5")), "c"), 4},
		{[]int{9, 10, most, math.MaxInt}, without(with(with(c, "e", was(8, 3, "")), "a", was(9, 3, "a9")), "c"), 5},
	} {
		for _, horizon := range x.horizons {
			sweeps(t, "some", c, horizon, x.want, x.count)
		}
	}
	for _, horizon := range append([]int{0, 1, most}, extremes...) {
		for _, none := range []gc.Chains{{}, {Keys: []string{}, Lists: []chain{}}} {
			sweeps(t, "none", none, horizon, none, 0)
		}
	}
}

// What is not yet committed stays, whatever the horizon is, also Gone and alone.
func TestP182SweepKeepsWhatIsOpen(t *testing.T) {
	alone := of(kept{"a", chain{was(0, 4, "v")}}, kept{"b", chain{gone(0, 4)}}, kept{"c", chain{gone(0, 5)}})
	over := of(
		kept{"a", chain{was(0, 4, "v"), was(5, 1, "w"), was(3, 1, "x")}},
		kept{"b", chain{gone(0, 4), gone(5, 1), was(3, 1, "x")}},
		kept{"c", chain{gone(0, 5), gone(3, 1)}},
	)
	for _, horizon := range []int{5, 6, most, math.MaxInt} {
		sweeps(t, "alone", alone, horizon, alone, 0)
		sweeps(t, "over others", over, horizon, of(
			kept{"a", chain{was(0, 4, "v"), was(5, 1, "w")}},
			kept{"b", chain{gone(0, 4)}},
			kept{"c", chain{gone(0, 5)}},
		), 4)
	}
	sweeps(t, "over others, some", over, 4, with(over, "c", gone(0, 5)), 1)
}

// Chains of which nothing is left go, at all places.
func TestP182SweepTakesEmptyChains(t *testing.T) {
	for which := range 1 << 5 {
		var c, want []kept
		count := 0
		for i := range 5 {
			k := kept{string(rune('a' + i)), chain{was(3, 4, "v"), gone(2, 1)}}
			count++
			if which>>i&1 == 1 {
				k.l = chain{gone(3, 4), was(2, 1, "v"), gone(1, 1)}[:1+i%3]
				count += i % 3
			} else {
				want = append(want, kept{k.key, k.l[:1]})
			}
			c = append(c, k)
		}
		sweeps(t, fmt.Sprintf("%05b", which), of(c...), 3, of(want...), count)
	}
}

func TestP182SweepOfMany(t *testing.T) {
	c, want := many(2048), many(2048)
	for i := range c.Lists {
		c.Lists[i] = falling(1+i%5, 2)
		want.Lists[i] = c.Lists[i][:1]
	}
	count := 0
	for _, l := range c.Lists {
		count += len(l) - 1
	}
	sweeps(t, "2048 keys", c, most, want, count)
	sweeps(t, "2048 keys, below all", c, 9, c, 0)
	full := of(kept{"a", falling(64, 1)}, kept{"b", falling(64, 2)}, kept{"c", append(chain{was(0, 3, "v")}, falling(63, 2)...)})
	for n := range 66 {
		left := min(65-max(n, 1), 64)
		left = max(left, 1)
		a := falling(64, 1)[:left]
		b := falling(64, 2)[:left]
		open := append(chain{was(0, 3, "v")}, falling(63, 2)[:max(min(64-n, 63), 1)]...)
		sweeps(t, "64 versions", full, 10*n, of(kept{"a", a}, kept{"b", b}, kept{"c", open}), 192-2*left-len(open))
	}
	for i := range c.Lists {
		c.Lists[i] = chain{gone(7, 1), was(5, 1, "v")}
	}
	sweeps(t, "2048 keys that are gone", c, 7, gc.Chains{}, 4096)
	sweeps(t, "2048 keys that are gone later", c, 6, c, 0)
}

// There is room for a key, and for a version, where others went.
func TestP182SweepMakesRoom(t *testing.T) {
	c := with(many(2047), "gone", gone(5, 1))
	next, err := gc.Put(c, "new", 9, 8, false, "v")
	refused(t, "2048 keys", next, err, api.ErrFull)
	swept, went, err := gc.Sweep(c, 5)
	if went != 1 || err != api.OK {
		t.Fatal("Sweep:", went, err)
	}
	next, err = gc.Put(swept, "new", 9, 8, false, "v")
	tells(t, "2047 keys", next, err, with(many(2047), "new", was(0, 8, "v")))
	c = of(kept{"k", falling(64, 1)})
	next, err = gc.Put(c, "k", 640, 8, false, "v")
	refused(t, "64 versions", next, err, api.ErrFull)
	swept, went, err = gc.Sweep(c, 20)
	if went != 1 || err != api.OK {
		t.Fatal("Sweep:", went, err)
	}
	next, err = gc.Put(swept, "k", 640, 8, false, "v")
	tells(t, "63 versions", next, err, of(kept{"k", append(chain{was(0, 8, "v")}, falling(64, 1)[:63]...)}))
}
