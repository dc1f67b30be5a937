package btree_test

import (
	"fmt"
	"slices"
	"testing"

	"switchback/api"
	"switchback/btree"
)

// finds holds that Get tells of a key what is held under it.
func finds(t *testing.T, what string, s btree.State, l []api.Pair, key string) {
	t.Helper()
	at, there := find(l, key)
	want := ""
	if there {
		want = l[at].Value
	}
	if v, is, err := btree.Get(s, key); v != want || is != there || err != api.OK {
		t.Fatalf("%s: Get(%q) of %s = %q, %t, %d", what, key, brief(s), v, is, err)
	}
}

// ranges holds that Range tells the pairs from from on, below to.
func ranges(t *testing.T, what string, s btree.State, l []api.Pair, from, to string) int {
	t.Helper()
	var want []api.Pair
	for _, p := range l {
		if p.Key >= from && (to == "" || p.Key < to) {
			want = append(want, p)
		}
	}
	if got, err := btree.Range(s, from, to); err != api.OK || !slices.Equal(got, want) {
		t.Fatalf("%s: Range(%q, %q) of %s = %q, %d, not %q", what, from, to, brief(s), got, err, want)
	}
	return len(want)
}

func TestP121Get(t *testing.T) {
	for n := range 90 {
		for i, s := range planted(n) {
			l := held(s)
			for at := range 2*n + 2 {
				finds(t, fmt.Sprintf("%d pairs, tree %d", n, i), s, l, key(at))
			}
			for _, k := range append(odd(), key(1)+"\x00", key(1)[:4], "zz") {
				finds(t, fmt.Sprintf("%d pairs, tree %d", n, i), s, l, k)
			}
		}
	}
	for i, s := range planted(2048) {
		l := held(s)
		for at := 0; at <= 4097; at += 17 {
			finds(t, fmt.Sprintf("2048 pairs, tree %d", i), s, l, key(at))
		}
	}
}

// What stands above leaves alone is not there.
func TestP121GetOfKeysThatStandAboveAlone(t *testing.T) {
	s := edited(three(), func(s *btree.State) {
		s.Nodes[8].Keys[0] = "g"
		s.Nodes[6].Keys = []string{"bb", "dd"}
		s.Nodes[7].Keys = []string{"nn", "pp"}
	})
	l := held(s)
	may(t, "three levels", s, l)
	for _, k := range []string{"g", "bb", "dd", "nn", "pp"} {
		if v, is, err := btree.Get(s, k); v != "" || is || err != api.OK {
			t.Errorf("Get(%q) = %q, %t, %d", k, v, is, err)
		}
		ranges(t, "from what stands above", s, l, k, "")
		ranges(t, "to what stands above", s, l, "", k)
	}
	for _, p := range l {
		finds(t, "beside what stands above", s, l, p.Key)
	}
}

func TestP121GetOfEmptyValues(t *testing.T) {
	s := tree(0, btree.Node{Keys: []string{"", "a"}, Values: []string{"", ""}})
	for k, there := range map[string]bool{"": true, "a": true, "b": false, "\x00": false} {
		if v, is, err := btree.Get(s, k); v != "" || is != there || err != api.OK {
			t.Errorf("Get(%q) = %q, %t, %d", k, v, is, err)
		}
	}
}

func TestP121Range(t *testing.T) {
	for n := range 26 {
		for i, s := range planted(n) {
			ends := []string{"", "\x00", "0", "zz", "\xff"}
			for at := range 2*n + 2 {
				ends = append(ends, key(at))
			}
			l := held(s)
			for _, from := range ends {
				for _, to := range ends {
					ranges(t, fmt.Sprintf("%d pairs, tree %d", n, i), s, l, from, to)
				}
			}
		}
	}
	next := rolled(3)
	seen := map[int]bool{}
	for _, n := range []int{36, 100, 101, 324, 500, 972, 2048} {
		for i, s := range planted(n) {
			l := held(s)
			for range 150 {
				from, to := next(2*n+2), next(2*n+2)
				seen[ranges(t, fmt.Sprintf("%d pairs, tree %d", n, i), s, l, key(from), key(to))] = true
				ranges(t, fmt.Sprintf("%d pairs, tree %d", n, i), s, l, key(from), key(from+next(6)))
			}
		}
	}
	if !seen[0] || len(seen) < 300 {
		t.Errorf("only %d counts of pairs were told", len(seen))
	}
}

func TestP121RangeOfAnyOctets(t *testing.T) {
	s := btree.New()
	for i, k := range odd() {
		s = puts(t, "any octets", s, k, fmt.Sprint(i))
	}
	l := held(s)
	ends := append(odd(), "\x00\x00\x00", "a\x02", "\xfe", "\xff\x01", "\xff\xff\xff\xff")
	for _, from := range ends {
		for _, to := range ends {
			ranges(t, "any octets", s, l, from, to)
		}
	}
}

func TestP121Depth(t *testing.T) {
	depth := func(what string, s btree.State, want int) {
		t.Helper()
		if deep, err := btree.Depth(s); deep != want || err != api.OK {
			t.Errorf("%s: Depth = %d, %d, not %d", what, deep, err, want)
		}
	}
	depth("none", btree.New(), 0)
	depth("an empty list", tree(-1, []btree.Node{}...), 0)
	depth("a leaf", tree(0, leaf("a")), 1)
	depth("four keys", tree(0, leaf("a b c d")), 1)
	depth("two leaves", tree(2, leaf("a b"), leaf("c d"), over("c", 0, 1)), 2)
	depth("three levels", three(), 3)
	thin, thick := planter{cut: thinly}, planter{cut: thickly}
	for n, deep := range map[int]int{3: 1, 4: 2, 11: 2, 12: 3, 35: 3, 36: 4, 107: 4, 108: 5, 323: 5, 324: 6, 971: 6, 972: 7, 2048: 7} {
		depth(fmt.Sprint(n, " pairs, thin"), thin.tree(n), deep)
	}
	for n, deep := range map[int]int{1: 1, 4: 1, 5: 2, 20: 2, 21: 3, 100: 3, 101: 4, 500: 4, 501: 5, 2048: 5} {
		depth(fmt.Sprint(n, " pairs, thick"), thick.tree(n), deep)
	}
}
