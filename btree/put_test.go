package btree_test

import (
	"fmt"
	"slices"
	"strings"
	"testing"

	"switchback/api"
	"switchback/btree"
)

// with are pairs, but a key with a value.
func with(l []api.Pair, key, value string) []api.Pair {
	at, is := find(l, key)
	l = slices.Clone(l)
	if is {
		l[at].Value = value
		return l
	}
	return slices.Insert(l, at, api.Pair{Key: key, Value: value})
}

// without are pairs, but none of a key.
func without(l []api.Pair, key string) []api.Pair {
	return slices.DeleteFunc(slices.Clone(l), func(p api.Pair) bool { return p.Key == key })
}

func find(l []api.Pair, key string) (int, bool) {
	return slices.BinarySearchFunc(l, key, func(p api.Pair, key string) int { return strings.Compare(p.Key, key) })
}

// puts holds that a key gets a value, and answers the tree that follows.
func puts(t *testing.T, what string, s btree.State, key, value string) btree.State {
	t.Helper()
	next, err := btree.Put(s, key, value)
	if err != api.OK {
		t.Fatalf("%s: Put(%q) into %s = %d", what, key, brief(s), err)
	}
	may(t, fmt.Sprintf("%s: Put(%q)", what, key), next, with(held(s), key, value))
	if v, is, err := btree.Get(next, key); v != value || !is || err != api.OK {
		t.Fatalf("%s: what was put under %q is %q, %t, %d", what, key, v, is, err)
	}
	return next
}

func TestP121PutIntoNone(t *testing.T) {
	for _, k := range []string{"", "a", "\x00", "\xff", strings.Repeat("long", 1<<14)} {
		for _, v := range []string{"", "x", "\x00\xff", strings.Repeat("long", 1<<14)} {
			s := puts(t, "none", btree.New(), k, v)
			if len(s.Nodes) != 1 || s.Root != 0 {
				t.Errorf("one pair is %s", brief(s))
			}
			puts(t, "none", tree(-1, []btree.Node{}...), k, v)
		}
	}
}

// Each place, in trees of few pairs.
func TestP121PutAtEachPlace(t *testing.T) {
	next := rolled(1)
	for n := range 46 {
		for i, s := range planted(n) {
			s = renumbered(s, next)
			for at := range 2*n + 1 {
				puts(t, fmt.Sprintf("%d pairs, tree %d", n, i), s, key(at), "new")
			}
		}
	}
}

// Each place of leaves of each size, beneath nodes of each size.
func TestP121PutIntoNodesOfEachSize(t *testing.T) {
	for _, apart := range []bool{false, true} {
		for kids := 2; kids <= 5; kids++ {
			sizes(kids, 2, 4, func(l []int) {
				s := shaped(apart, l)
				for at := range 2*len(held(s)) + 1 {
					puts(t, fmt.Sprint(l), s, key(at), "new")
				}
			})
		}
		for kids := 2; kids <= 5; kids++ {
			sizes(kids, 3, 5, func(l []int) {
				if kids > 3 && slices.Max(l)-slices.Min(l) == 1 {
					return
				}
				for size := 2; size <= 4; size += 2 {
					var leaves []int
					for _, n := range l {
						for range n {
							leaves = append(leaves, size)
						}
					}
					s := shaped(apart, leaves, l)
					for at := 0; at < 2*len(held(s))+1; at += 2 * kids {
						puts(t, fmt.Sprint(l, leaves), s, key(at), "new")
					}
				}
			})
		}
	}
}

// Where there is no room at all the tree grows by one level, wherever the key comes.
func TestP121PutIntoFullTrees(t *testing.T) {
	for deep, n := range map[int]int{1: 4, 2: 20, 3: 100, 4: 500} {
		for i, s := range planted(n) {
			if i%2 > 0 { // not a full one
				continue
			}
			for at := range 2*n + 1 {
				if n == 500 && at%3 > 0 && at > 20 && at < 980 {
					continue
				}
				what := fmt.Sprintf("%d pairs, tree %d, key %d", n, i, at)
				follows, err := btree.Put(s, key(at), "new")
				if err != api.OK {
					t.Fatalf("%s: %d", what, err)
				}
				want := deep + 1 - at%2
				if d, err := btree.Depth(follows); d != want || err != api.OK {
					t.Fatalf("%s: %d deep, not %d", what, d, want)
				}
				may(t, what, follows, with(held(s), key(at), "new"))
			}
		}
	}
}

func TestP121PutOfKeysThatAreThere(t *testing.T) {
	for n := 1; n <= 40; n++ {
		for i, s := range planted(n) {
			for at := range n {
				k := key(2*at + 1)
				for _, v := range []string{"", "new", value(k)} {
					puts(t, fmt.Sprintf("%d pairs, tree %d", n, i), s, k, v)
				}
			}
		}
	}
}

// What stands above leaves alone is a new key to the tree.
func TestP121PutOfKeysThatStandAboveAlone(t *testing.T) {
	for _, n := range []int{4, 5, 20, 21, 36, 100, 101, 324} {
		for i, s := range planted(n)[2:] {
			above := 0
			for _, x := range s.Nodes {
				if len(x.Kids) == 0 {
					continue
				}
				for _, k := range x.Keys {
					above++
					puts(t, fmt.Sprintf("%d pairs, tree %d", n, i), s, k, "new")
				}
			}
			if above == 0 && n > 4 {
				t.Errorf("%d pairs, tree %d: no keys stand above", n, i)
			}
		}
	}
}

func TestP121PutAtTheEndOfTheRoom(t *testing.T) {
	for i, s := range planted(2048) {
		what := fmt.Sprintf("2048 pairs, tree %d", i)
		for _, k := range []string{"", "\x00", key(0), key(2), key(1000), key(2048), key(4094), key(4096), "zz", "\xff", key(1) + "\x00"} {
			if next, err := btree.Put(s, k, "new"); !isZero(next) || err != api.ErrFull {
				t.Errorf("%s: Put(%q) = %s, %d", what, k, brief(next), err)
			}
		}
		for at := 1; at < 4096; at += 290 {
			puts(t, what, s, key(at), "new")
		}
		puts(t, what, s, key(4095), "")
		left, was, err := btree.Delete(s, key(777))
		if !was || err != api.OK {
			t.Fatalf("%s: Delete = %t, %d", what, was, err)
		}
		again := puts(t, what, left, key(778), "new")
		if next, err := btree.Put(again, key(777), "new"); !isZero(next) || err != api.ErrFull {
			t.Errorf("%s: Put of one more = %s, %d", what, brief(next), err)
		}
		puts(t, what, again, key(778), "newer")
	}
	for i, s := range planted(2047) {
		for at := 0; at <= 4094; at += 273 {
			puts(t, fmt.Sprintf("2047 pairs, tree %d", i), s, key(at), "new")
		}
	}
}

// odd are keys, rising, in which any octets stand.
func odd() []string {
	return []string{"", "\x00", "\x00\x00", "\x00\xff", "\x01", " ", "A", "B", "a", "a\x00", "a\x00\x00", "a\x01", "aa", "b", "\x7f", "\x80", "\xc3", "ä", "\xff", "\xff\x00", "\xff\xff", "\xff\xff\xff"}
}

func TestP121PutOfAnyOctets(t *testing.T) {
	keys := odd()
	if !slices.IsSorted(keys) {
		t.Fatal("they fall")
	}
	next := rolled(5)
	for range 60 {
		s := btree.New()
		left := slices.Clone(keys)
		for len(left) > 0 {
			at := next(len(left))
			s = puts(t, "any octets", s, left[at], "\x00"+left[at])
			left = slices.Delete(left, at, at+1)
		}
		for range 8 {
			s = puts(t, "any octets", s, keys[next(len(keys))], keys[next(len(keys))])
		}
	}
}
