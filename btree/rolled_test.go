package btree_test

import (
	"fmt"
	"maps"
	"slices"
	"testing"

	"switchback/api"
	"switchback/btree"
)

// A book is what a tree stands for: values by their keys.
type book map[string]string

func (b book) pairs() []api.Pair {
	var l []api.Pair
	for _, k := range slices.Sorted(maps.Keys(b)) {
		l = append(l, api.Pair{Key: k, Value: b[k]})
	}
	return l
}

// put and delete change a book and a tree alike.
func (b book) put(t *testing.T, what string, s btree.State, key, value string) btree.State {
	t.Helper()
	next, err := btree.Put(s, key, value)
	if _, is := b[key]; !is && len(b) == 2048 {
		if err != api.ErrFull || !isZero(next) {
			t.Fatalf("%s: Put(%q) into a full tree = %s, %d", what, key, brief(next), err)
		}
		return s
	}
	if err != api.OK {
		t.Fatalf("%s: Put(%q) = %d", what, key, err)
	}
	b[key] = value
	return next
}

func (b book) delete(t *testing.T, what string, s btree.State, key string) btree.State {
	t.Helper()
	next, was, err := btree.Delete(s, key)
	if _, is := b[key]; was != is || err != api.OK {
		t.Fatalf("%s: Delete(%q) = %t, %d", what, key, was, err)
	}
	delete(b, key)
	return next
}

// Keys that are put in each order and taken away in each order: what follows is what a map would hold.
func TestP122P123KeysInEachOrder(t *testing.T) {
	for first, come := range orders() {
		for second, leave := range orders() {
			for _, n := range []int{7, 40, 133} {
				what := fmt.Sprintf("%d, %s, %s", n, first, second)
				keys := make([]int, n)
				for i := range keys {
					keys[i] = i
				}
				gone := slices.Clone(keys)
				come(keys)
				leave(gone)
				b, s := book{}, btree.New()
				for _, i := range keys {
					s = b.put(t, what, s, key(i), fmt.Sprint("first ", i))
					may(t, what, s, b.pairs())
				}
				for _, i := range gone {
					s = b.delete(t, what, s, key(i))
					may(t, what, s, b.pairs())
				}
				if len(s.Nodes) != 0 || s.Root != -1 {
					t.Errorf("%s: none is %s", what, brief(s))
				}
			}
		}
	}
}

// As many as there may be, and back to none.
func TestP122P123ManyKeysInEachOrder(t *testing.T) {
	for _, order := range []string{"falling", "mixed"} {
		keys := make([]int, 2048)
		for i := range keys {
			keys[i] = i
		}
		orders()[order](keys)
		b, s := book{}, btree.New()
		for i, k := range keys {
			s = b.put(t, order, s, key(k), fmt.Sprint(k))
			if i%128 == 0 || i > 2045 {
				may(t, fmt.Sprint(order, " ", i), s, b.pairs())
			}
		}
		s = b.put(t, order, s, "one more", "")
		s = b.put(t, order, s, key(5), "again")
		may(t, order, s, b.pairs())
		slices.Reverse(keys)
		for i, k := range keys {
			s = b.delete(t, order, s, key(k))
			if i%128 == 0 || i > 2035 {
				may(t, fmt.Sprint(order, " back ", i), s, b.pairs())
			}
		}
	}
}

// Calls as they come, of few keys and of many, with more that put at one time and more that take away at another.
func TestP122P123RolledCalls(t *testing.T) {
	next := rolled(122)
	deepest := 0
	for round := range 60 {
		many := []int{6, 30, 150, 600}[round%4]
		b, s := book{}, btree.New()
		for step := range 300 {
			what := fmt.Sprintf("round %d, step %d", round, step)
			k := key(next(many))
			if next(10) < 3+step/75%2*4 {
				s = b.delete(t, what, s, k)
			} else {
				s = b.put(t, what, s, k, fmt.Sprint(step))
			}
			if next(9) == 0 {
				s = renumbered(s, next)
			}
			l := b.pairs()
			may(t, what, s, l)
			k = key(next(many))
			finds(t, what, s, l, k)
			ranges(t, what, s, l, k, key(next(many)))
			deep, _ := btree.Depth(s)
			deepest = max(deepest, deep)
		}
	}
	if deepest < 4 {
		t.Errorf("no tree was deeper than %d", deepest)
	}
}

// Calls on trees of any shape, not just of those that calls make.
func TestP122P123RolledTrees(t *testing.T) {
	next := rolled(123)
	for round := range 300 {
		// Each level is cut at random, as long as that can be.
		cut := func(_, n, least, most int) []int {
			if n <= most && (n < 2*least || next(2) == 0) {
				return []int{n}
			}
			var l []int
			for n > most {
				size := min(least+next(most-least+1), n-least)
				l, n = append(l, size), n-size
			}
			return append(l, n)
		}
		s := renumbered(planter{cut: cut, apart: round%2 > 0}.tree(1+next(200)), next)
		b := book{}
		for _, p := range held(s) {
			b[p.Key] = p.Value
		}
		for step := range 40 {
			what := fmt.Sprintf("round %d, step %d", round, step)
			k := key(next(2*len(b) + 3))
			if next(3) > 0 {
				s = b.delete(t, what, s, k)
			} else {
				s = b.put(t, what, s, k, "new")
			}
			may(t, what, s, b.pairs())
		}
	}
}
