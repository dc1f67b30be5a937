package btree_test

import (
	"fmt"
	"reflect"
	"slices"
	"testing"

	"switchback/api"
	"switchback/btree"
)

// deletes holds that a key goes, if it is there, and answers the tree that follows.
func deletes(t *testing.T, what string, s btree.State, key string) btree.State {
	t.Helper()
	l := held(s)
	_, is := find(l, key)
	next, was, err := btree.Delete(s, key)
	if err != api.OK || was != is {
		t.Fatalf("%s: Delete(%q) from %s = %t, %d", what, key, brief(s), was, err)
	}
	may(t, fmt.Sprintf("%s: Delete(%q)", what, key), next, without(l, key))
	if v, is, err := btree.Get(next, key); v != "" || is || err != api.OK {
		t.Fatalf("%s: what was deleted, %q, is %q, %t, %d", what, key, v, is, err)
	}
	if !is && !(len(s.Nodes) == 0 && len(next.Nodes) == 0) && !reflect.DeepEqual(next, s) {
		t.Fatalf("%s: Delete(%q) of none makes %s of %s", what, key, brief(next), brief(s))
	}
	return next
}

func TestP121DeleteFromNone(t *testing.T) {
	for _, k := range odd() {
		s := deletes(t, "none", btree.New(), k)
		if len(s.Nodes) != 0 || s.Root != -1 {
			t.Errorf("none is %s", brief(s))
		}
		s = deletes(t, "one", puts(t, "none", s, k, "x"), k)
		if len(s.Nodes) != 0 || s.Root != -1 {
			t.Errorf("none is %s", brief(s))
		}
	}
}

// Each key, and each one that is not there, in trees of few pairs.
func TestP121DeleteAtEachPlace(t *testing.T) {
	next := rolled(2)
	for n := range 46 {
		for i, s := range planted(n) {
			s = renumbered(s, next)
			for at := range 2*n + 1 {
				deletes(t, fmt.Sprintf("%d pairs, tree %d", n, i), s, key(at))
			}
			for _, k := range odd() {
				deletes(t, fmt.Sprintf("%d pairs, tree %d", n, i), s, k)
			}
		}
	}
}

// Leaves with brothers of each size on either side, and nodes with such brothers.
func TestP121DeleteBesideBrothersOfEachSize(t *testing.T) {
	for _, apart := range []bool{false, true} {
		for kids := 2; kids <= 5; kids++ {
			sizes(kids, 2, 4, func(l []int) {
				s := shaped(apart, l)
				for at := range 2*len(held(s)) + 1 {
					deletes(t, fmt.Sprint(l), s, key(at))
				}
			})
		}
		for kids := 2; kids <= 5; kids++ {
			sizes(kids, 3, 5, func(l []int) {
				var leaves []int
				for _, n := range l {
					for range n {
						leaves = append(leaves, 2)
					}
				}
				s := shaped(apart, leaves, l)
				for at := range held(s) {
					if kids < 4 || at%3 == 0 {
						deletes(t, fmt.Sprint(l, leaves), s, key(2*at+1))
					}
				}
			})
		}
	}
}

// Where nothing can be lent the tree falls by one level, whichever key goes.
func TestP121DeleteFromThinTrees(t *testing.T) {
	for deep, n := range map[int]int{2: 4, 3: 12, 4: 36, 5: 108, 6: 324, 7: 972} {
		for i, s := range planted(n) {
			if i%2 == 0 { // not a thin one
				continue
			}
			if d, err := btree.Depth(s); d != deep || err != api.OK {
				t.Fatalf("%d pairs, tree %d: %d deep", n, i, d)
			}
			for at := 0; at < n; at += 1 + n/70 {
				left := deletes(t, fmt.Sprintf("%d pairs, tree %d", n, i), s, key(2*at+1))
				if d, err := btree.Depth(left); d != deep-1 || err != api.OK {
					t.Fatalf("%d pairs, tree %d: without %d it is %d deep", n, i, at, d)
				}
			}
		}
	}
}

// Keys that stand above their leaves, too, are gone as others, come again as others; what stands above leaves alone is not there.
func TestP121DeleteOfKeysThatStandAbove(t *testing.T) {
	for _, n := range []int{5, 12, 20, 21, 36, 100, 108} {
		for i, s := range planted(n) {
			what := fmt.Sprintf("%d pairs, tree %d", n, i)
			there := 0
			for _, x := range s.Nodes {
				if len(x.Kids) == 0 {
					continue
				}
				for _, k := range x.Keys {
					if _, is := find(held(s), k); is {
						there++
					}
					left := deletes(t, what, s, k)
					deletes(t, what, left, k)
					puts(t, what, left, k, "new")
				}
			}
			if (there > 0) != (i < 2) {
				t.Errorf("%s: %d keys that stand above are there", what, there)
			}
		}
	}
}

// All keys, one after another, down to none.
func TestP121DeleteOfAll(t *testing.T) {
	for _, n := range []int{1, 2, 3, 4, 5, 8, 9, 12, 13, 21, 36, 77, 108, 150} {
		for i, s := range planted(n) {
			for order, turn := range orders() {
				keys := make([]int, n)
				for j := range keys {
					keys[j] = j
				}
				turn(keys)
				left := s
				for _, at := range keys {
					left = deletes(t, fmt.Sprintf("%d pairs, tree %d, %s", n, i, order), left, key(2*at+1))
				}
				if len(left.Nodes) != 0 || left.Root != -1 {
					t.Errorf("%d pairs, tree %d, %s: none is %s", n, i, order, brief(left))
				}
			}
		}
	}
}

// orders are ways in which what rises is put.
func orders() map[string]func(l []int) {
	return map[string]func(l []int){
		"rising":  func([]int) {},
		"falling": slices.Reverse[[]int],
		"from the middle": func(l []int) {
			mid := slices.Clone(l[len(l)/2:])
			copy(l[len(l)-len(l)/2:], slices.Clone(l[:len(l)/2]))
			copy(l, mid)
		},
		"from both ends": func(l []int) {
			was := slices.Clone(l)
			for i := range l {
				if l[i] = was[i/2]; i%2 == 1 {
					l[i] = was[len(l)-1-i/2]
				}
			}
		},
		"mixed": func(l []int) {
			next := rolled(77)
			for i := range l {
				j := i + next(len(l)-i)
				l[i], l[j] = l[j], l[i]
			}
		},
	}
}
