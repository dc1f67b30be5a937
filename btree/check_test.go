package btree_test

import (
	"fmt"
	"math"
	"runtime/debug"
	"slices"
	"strings"
	"testing"

	"switchback/api"
	"switchback/btree"
)

// three are nodes that stand three deep.
func three() btree.State {
	return tree(8,
		leaf("a b"), leaf("c d"), leaf("e f"), leaf("m n"), leaf("o p"), leaf("q r"),
		over("c e", 0, 1, 2), over("o q", 3, 4, 5), over("m", 6, 7))
}

// edited is s, changed: in memory of its own.
func edited(s btree.State, edit func(s *btree.State)) btree.State {
	s = given(s)
	edit(&s)
	return s
}

// agrees holds that a tree may be or not, as the second reading has it, and tells which.
func agrees(t *testing.T, what string, s btree.State) bool {
	t.Helper()
	if !mayBe(s) {
		mayNot(t, what, s)
		return false
	}
	may(t, what, s, held(s))
	return true
}

func TestP121TreesThatMayBe(t *testing.T) {
	for what, s := range map[string]btree.State{
		"no nodes":                 tree(-1),
		"an empty list of nodes":   tree(-1, []btree.Node{}...),
		"one key":                  tree(0, leaf("a")),
		"two":                      tree(0, leaf("a b")),
		"four":                     tree(0, leaf("a b c d")),
		"empty lists":              tree(0, btree.Node{Keys: []string{"a"}, Values: []string{""}, Kids: []int{}}),
		"two leaves":               tree(2, leaf("a b"), leaf("c d"), over("c", 0, 1)),
		"the root ahead":           tree(0, over("c", 1, 2), leaf("a b"), leaf("c d")),
		"the root between":         tree(1, leaf("c d"), over("c", 2, 0), leaf("a b")),
		"a key of no leaf":         tree(2, leaf("a b"), leaf("d e"), over("c", 0, 1)),
		"close behind the keys":    tree(2, leaf("a b"), leaf("d e"), over("b0", 0, 1)),
		"five kids":                tree(5, leaf("a b"), leaf("c d"), leaf("e f g h"), leaf("i j"), leaf("k l m"), over("c e i k", 0, 1, 2, 3, 4)),
		"no values above":          tree(2, leaf("a b"), leaf("c d"), btree.Node{Keys: []string{"c"}, Values: []string{}, Kids: []int{0, 1}}),
		"three levels":             three(),
		"no key":                   tree(2, btree.Node{Keys: []string{"", "\x00"}, Values: []string{"", "x"}}, leaf("c d"), over("c", 0, 1)),
		"the highest octets":       tree(2, leaf("\xff \xff\xff"), leaf("\xff\xff\xff \xff\xff\xff\xff"), over("\xff\xff\xff", 0, 1)),
		"keys above of no leaf":    edited(three(), func(s *btree.State) { s.Nodes[8].Keys[0] = "g"; s.Nodes[6].Keys[0] = "b\x00" }),
		"the least that is beside": edited(three(), func(s *btree.State) { s.Nodes[3].Keys[0] = "m" }),
		"what goes far up":         edited(three(), func(s *btree.State) { s.Nodes[2].Keys[1] = "l\xff" }),
	} {
		may(t, what, s, held(s))
	}
	next := rolled(121)
	for n := range 60 {
		for i, s := range planted(n) {
			for range 4 {
				s = renumbered(s, next)
				may(t, fmt.Sprintf("%d pairs, tree %d", n, i), s, held(s))
			}
		}
	}
	for _, n := range []int{108, 324, 500, 501, 972, 1500, 2047, 2048} {
		for i, s := range planted(n) {
			may(t, fmt.Sprintf("%d pairs, tree %d", n, i), s, held(s))
		}
	}
}

func TestP121NoNodes(t *testing.T) {
	for _, root := range []int{0, 1, -2, 5, 2048, math.MinInt, math.MaxInt} {
		mayNot(t, "no nodes", tree(root))
		mayNot(t, "an empty list", tree(root, []btree.Node{}...))
	}
	mayNot(t, "the zero state", btree.State{})
}

// far are numbers that are no node's, of n nodes.
func far(n int) []int {
	return []int{-1, -2, n, n + 1, n + 100, math.MinInt, math.MaxInt, math.MinInt32, 1 << 32}
}

func TestP121NumbersOfNoNode(t *testing.T) {
	for _, s := range []btree.State{tree(0, leaf("a b")), three(), planted(100)[0]} {
		for _, at := range far(len(s.Nodes)) {
			mayNot(t, fmt.Sprint("Root ", at), edited(s, func(s *btree.State) { s.Root = at }))
			for i, n := range s.Nodes {
				for j := range n.Kids {
					mayNot(t, fmt.Sprint("a kid ", at), edited(s, func(s *btree.State) { s.Nodes[i].Kids[j] = at }))
				}
			}
		}
	}
}

func TestP121NodesThatMayNotBe(t *testing.T) {
	for what, edit := range map[string]func(s *btree.State){
		// Of which node a node is a kid.
		"a leaf of none":        func(s *btree.State) { s.Nodes = append(s.Nodes, leaf("x y")) },
		"an empty node of none": func(s *btree.State) { s.Nodes = append(s.Nodes, btree.Node{}) },
		"a leaf of none between": func(s *btree.State) {
			s.Nodes[2], s.Nodes[6].Kids = leaf("x y"), []int{0, 1, 9}
			s.Nodes = append(s.Nodes, leaf("e f"))
		},
		"two that are each other's":    func(s *btree.State) { s.Nodes = append(s.Nodes, over("x y", 10, 10, 10), over("x y", 9, 9, 9)) },
		"one of none that is its own":  func(s *btree.State) { s.Nodes = append(s.Nodes, over("x y", 9, 9, 9)) },
		"a tree beside":                func(s *btree.State) { s.Nodes = append(s.Nodes, leaf("x x1"), leaf("y z"), over("y", 9, 10)) },
		"a root of a part":             func(s *btree.State) { s.Root = 6 },
		"a leaf as the root":           func(s *btree.State) { s.Root = 0 },
		"a root that is a kid":         func(s *btree.State) { s.Nodes[6].Kids[0] = 8 },
		"a root that is a last kid":    func(s *btree.State) { s.Nodes[7].Kids[2] = 8 },
		"a root that is its own":       func(s *btree.State) { s.Nodes[8].Kids[0] = 8 },
		"a node that is its own":       func(s *btree.State) { s.Nodes[6].Kids[0] = 6 },
		"a node that is its own, last": func(s *btree.State) { s.Nodes[7].Kids[2] = 7 },
		"a leaf of two":                func(s *btree.State) { s.Nodes[7].Kids[0] = 2 },
		"a leaf of one, twice":         func(s *btree.State) { s.Nodes[6].Kids[1] = 0 },
		"a leaf twice, and one ahead":  func(s *btree.State) { s.Nodes[6].Kids[0] = 1 },
		"a node twice":                 func(s *btree.State) { s.Nodes[8].Kids[1] = 6 },
		"a node of one below it":       func(s *btree.State) { s.Nodes[6].Kids[2] = 7; s.Nodes[7].Kids[0] = 6 },
		"a leaf of two nodes":          func(s *btree.State) { s.Nodes[8].Kids[0] = 0 },
		// How many keys a node has.
		"a leaf of no keys":      func(s *btree.State) { s.Nodes[0] = leaf("") },
		"a leaf of one key":      func(s *btree.State) { s.Nodes[0] = leaf("a") },
		"a last leaf of one key": func(s *btree.State) { s.Nodes[5] = leaf("q") },
		"a leaf of five":         func(s *btree.State) { s.Nodes[1] = leaf("c c1 c2 c3 d") },
		"a leaf of many":         func(s *btree.State) { s.Nodes[1] = leaf("c c1 c2 c3 c4 c5 c6 c7 c8 d") },
		"two kids": func(s *btree.State) {
			s.Nodes[6] = over("c", 0, 1)
			s.Nodes[2] = leaf("n1 n2")
			s.Nodes[7] = over("n1 o q", 3, 2, 4, 5)
		},
		"a root of no keys, above nodes": func(s *btree.State) {
			*s = tree(6, leaf("a b"), leaf("c d"), leaf("e f"), leaf("m n"), leaf("o p"), over("c e m o", 0, 1, 2, 3, 4), over("", 5))
		},
		"a root of no keys":      func(s *btree.State) { *s = tree(1, leaf("a b"), over("", 0)) },
		"a root of no pairs":     func(s *btree.State) { *s = tree(0, leaf("")) },
		"a root that is nothing": func(s *btree.State) { *s = tree(0, btree.Node{}) },
		"a root of five pairs":   func(s *btree.State) { *s = tree(0, leaf("a b c d e")) },
		"a root of many pairs":   func(s *btree.State) { *s = tree(0, leaf("a b c d e f g h i j k l m")) },
		"a root of six kids": func(s *btree.State) {
			*s = tree(6, leaf("a b"), leaf("c d"), leaf("e f"), leaf("g h"), leaf("i j"), leaf("k l"), over("c e g i k", 0, 1, 2, 3, 4, 5))
		},
		"six kids": func(s *btree.State) {
			s.Nodes = append(s.Nodes, leaf("g h"), leaf("i j"), leaf("k l"))
			s.Nodes[6] = over("c e g i k", 0, 1, 2, 9, 10, 11)
		},
		// How many values and kids.
		"no values":                 func(s *btree.State) { s.Nodes[0].Values = nil },
		"a value too few":           func(s *btree.State) { s.Nodes[0].Values = s.Nodes[0].Values[:1] },
		"a value too many":          func(s *btree.State) { s.Nodes[0].Values = append(s.Nodes[0].Values, "") },
		"a value too few, last":     func(s *btree.State) { s.Nodes[5].Values = s.Nodes[5].Values[:1] },
		"a value too many, last":    func(s *btree.State) { s.Nodes[5].Values = append(s.Nodes[5].Values, "") },
		"values of a root too few":  func(s *btree.State) { *s = tree(0, btree.Node{Keys: []string{"a"}}) },
		"values of a root too many": func(s *btree.State) { *s = tree(0, btree.Node{Keys: []string{"a"}, Values: []string{"", ""}}) },
		"a value above leaves":      func(s *btree.State) { s.Nodes[6].Values = []string{""} },
		"values above leaves":       func(s *btree.State) { s.Nodes[6].Values = []string{"x", "x"} },
		"values of the root":        func(s *btree.State) { s.Nodes[8].Values = []string{"x"} },
		"no kids":                   func(s *btree.State) { s.Nodes[6].Kids = nil },
		"no kids, and nodes fewer":  func(s *btree.State) { *s = tree(0, over("a")) },
		"kids as many as keys": func(s *btree.State) {
			s.Nodes[6].Kids = s.Nodes[6].Kids[:2]
			s.Nodes[2] = leaf("n1 n2")
			s.Nodes[7] = over("n1 o q", 3, 2, 4, 5)
		},
		"kids as many as keys, last": func(s *btree.State) { *s = tree(2, leaf("a b"), leaf("c d"), over("c e", 0, 1)) },
		"one kid, one key":           func(s *btree.State) { *s = tree(1, leaf("a b"), over("c", 0)) },
		"a kid too many": func(s *btree.State) {
			s.Nodes = append(s.Nodes, leaf("g h"))
			s.Nodes[6].Kids = append(s.Nodes[6].Kids, 9)
		},
		"a kid of the root too many": func(s *btree.State) { *s = tree(3, leaf("a b"), leaf("c d"), leaf("e f"), over("c", 0, 1, 2)) },
		"a kid of a leaf":            func(s *btree.State) { s.Nodes[0].Kids = []int{9}; s.Nodes = append(s.Nodes, leaf("a1 a2")) },
		"kids of a leaf, as many": func(s *btree.State) {
			s.Nodes[5].Kids = []int{9, 10, 11}
			s.Nodes = append(s.Nodes, leaf("p p1"), leaf("q q1"), leaf("r s"))
		},
		// How deep the leaves are.
		"a leaf beside a node": func(s *btree.State) {
			*s = tree(4, leaf("a b"), leaf("c d"), leaf("e f"), over("c e", 0, 1, 2), over("m", 3, 5), leaf("m n"))
		},
		"a leaf ahead of a node": func(s *btree.State) {
			*s = tree(4, leaf("m n"), leaf("o p"), leaf("q r"), over("o q", 0, 1, 2), over("m", 5, 3), leaf("c d"))
		},
		"a leaf too deep": func(s *btree.State) {
			s.Nodes[1] = over("c3 c6", 9, 10, 11)
			s.Nodes = append(s.Nodes, leaf("c c1"), leaf("c3 c4"), leaf("c6 c7"))
		},
		"the first leaf too deep": func(s *btree.State) {
			s.Nodes[0] = over("a3 a6", 9, 10, 11)
			s.Nodes = append(s.Nodes, leaf("a a1"), leaf("a3 a4"), leaf("a6 a7"))
		},
		"the last leaf too deep": func(s *btree.State) {
			s.Nodes[5] = over("q3 q6", 9, 10, 11)
			s.Nodes = append(s.Nodes, leaf("q q1"), leaf("q3 q4"), leaf("q6 q7"))
		},
		// Whether keys rise.
		"a leaf's keys fall":           func(s *btree.State) { s.Nodes[0] = leaf("b a") },
		"the last leaf's keys fall":    func(s *btree.State) { s.Nodes[5] = leaf("r q") },
		"a leaf's keys are one":        func(s *btree.State) { s.Nodes[0] = leaf("a a") },
		"the last of four are one":     func(s *btree.State) { s.Nodes[1] = leaf("c c1 d d") },
		"the last of four falls":       func(s *btree.State) { s.Nodes[1] = leaf("c c1 d c2") },
		"a root's keys fall":           func(s *btree.State) { *s = tree(0, leaf("b a")) },
		"a root's keys are one":        func(s *btree.State) { *s = tree(0, leaf("a a")) },
		"keys that fall above leaves":  func(s *btree.State) { s.Nodes[6].Keys = []string{"e", "c"} },
		"keys that are one above them": func(s *btree.State) { s.Nodes[6].Keys = []string{"c", "c"} },
		// Whether they lie between those that part them.
		"a first kid's key as the key":   func(s *btree.State) { s.Nodes[0] = leaf("a c") },
		"a first kid's key above it":     func(s *btree.State) { s.Nodes[0] = leaf("a c0") },
		"a first kid's keys above it":    func(s *btree.State) { s.Nodes[0] = leaf("c0 c00") },
		"a kid's key below the key":      func(s *btree.State) { s.Nodes[1] = leaf("b1 d") },
		"a kid's keys below it":          func(s *btree.State) { s.Nodes[1] = leaf("b1 b2") },
		"a kid's key as the next one":    func(s *btree.State) { s.Nodes[1] = leaf("c e") },
		"a kid's key above the next":     func(s *btree.State) { s.Nodes[1] = leaf("c e0") },
		"a last kid's key below":         func(s *btree.State) { s.Nodes[2] = leaf("d1 f") },
		"as the key above the parent":    func(s *btree.State) { s.Nodes[2] = leaf("e m") },
		"above the key above the parent": func(s *btree.State) { s.Nodes[2] = leaf("e m0") },
		"below the key above the parent": func(s *btree.State) { s.Nodes[3] = leaf("l n") },
		"kids in another order":          func(s *btree.State) { s.Nodes[6].Kids = []int{1, 0, 2} },
		"nodes in another order":         func(s *btree.State) { s.Nodes[8].Kids = []int{7, 6} },
		"a key below the first kid's":    func(s *btree.State) { s.Nodes[6].Keys[0] = "a" },
		"a key as the first kid's last":  func(s *btree.State) { s.Nodes[6].Keys[0] = "b" },
		"a key above the second's first": func(s *btree.State) { s.Nodes[6].Keys[0] = "c\x00" },
		"a last key below its left":      func(s *btree.State) { s.Nodes[6].Keys[1] = "d" },
		"a last key above its right":     func(s *btree.State) { s.Nodes[6].Keys[1] = "f" },
		"the root's key below its left":  func(s *btree.State) { s.Nodes[8].Keys[0] = "e" },
		"the root's key within its left": func(s *btree.State) { s.Nodes[8].Keys[0] = "f" },
		"the root's key above its right": func(s *btree.State) { s.Nodes[8].Keys[0] = "m0" },
		"the root's key is \"\"":         func(s *btree.State) { s.Nodes[8].Keys[0] = "" },
		"a key that is \"\"":             func(s *btree.State) { s.Nodes[6].Keys[0] = "" },
		"\"\" as a last leaf's key":      func(s *btree.State) { s.Nodes[5].Keys[0] = "" },
	} {
		s := edited(three(), edit)
		mayNot(t, what, s)
		mayNot(t, what+", renumbered", renumbered(s, func(int) int { return 0 }))
		for i := range s.Nodes { // empty lists are none
			n := &s.Nodes[i]
			n.Keys, n.Values, n.Kids = append([]string{}, n.Keys...), append([]string{}, n.Values...), append([]int{}, n.Kids...)
		}
		mayNot(t, what+", without nil", s)
	}
}

// A node above leaves whose key is out of what parts it from others has a leaf that is, too; so has one far above.
func TestP121KeysFarAbove(t *testing.T) {
	s := planted(120)[1]
	may(t, "as built", s, held(s))
	for i, n := range s.Nodes {
		for j, k := range n.Keys {
			for _, other := range []string{"", key(0), k + "\x00", k[:4] + "\xff", key(120), key(242)} {
				agrees(t, fmt.Sprintf("%q for key %d of node %d", other, j, i), edited(s, func(s *btree.State) { s.Nodes[i].Keys[j] = other }))
			}
		}
	}
}

// changed hands out s with each one thing changed.
func changed(s btree.State, yield func(what string, s btree.State)) {
	change := func(what string, edit func(s *btree.State)) { yield(what, edited(s, edit)) }
	numbers := append(far(len(s.Nodes)), -3)
	for i := range s.Nodes {
		numbers = append(numbers, i)
	}
	for _, n := range numbers {
		change(fmt.Sprint("Root ", n), func(s *btree.State) { s.Root = n })
	}
	keys := []string{"", "\x00", "\xff"}
	for _, p := range held(s) {
		keys = append(keys, p.Key, p.Key+"\x00")
	}
	for i, n := range s.Nodes {
		for j := range n.Keys {
			for _, k := range keys {
				change(fmt.Sprintf("key %d of node %d is %q", j, i, k), func(s *btree.State) { s.Nodes[i].Keys[j] = k })
			}
			change(fmt.Sprintf("no key %d of node %d", j, i), func(s *btree.State) { s.Nodes[i].Keys = slices.Delete(s.Nodes[i].Keys, j, j+1) })
		}
		for j := range len(n.Keys) + 1 {
			for _, k := range keys {
				change(fmt.Sprintf("one more key %q at %d of node %d", k, j, i), func(s *btree.State) { s.Nodes[i].Keys = slices.Insert(s.Nodes[i].Keys, j, k) })
				change(fmt.Sprintf("one more pair %q at %d of node %d", k, j, i), func(s *btree.State) {
					n := &s.Nodes[i]
					n.Keys, n.Values = slices.Insert(n.Keys, j, k), append(n.Values, "")
				})
			}
		}
		change(fmt.Sprint("no last pair of node ", i), func(s *btree.State) {
			n := &s.Nodes[i]
			n.Keys, n.Values = n.Keys[:len(n.Keys)-1], n.Values[:max(0, len(n.Values)-1)]
		})
		change(fmt.Sprint("one more value of node ", i), func(s *btree.State) { s.Nodes[i].Values = append(s.Nodes[i].Values, "") })
		change(fmt.Sprint("a value fewer of node ", i), func(s *btree.State) { s.Nodes[i].Values = s.Nodes[i].Values[:max(0, len(n.Values)-1)] })
		for j := range n.Kids {
			for _, kid := range numbers {
				change(fmt.Sprintf("kid %d of node %d is %d", j, i, kid), func(s *btree.State) { s.Nodes[i].Kids[j] = kid })
				change(fmt.Sprintf("one more kid %d at %d of node %d", kid, j, i), func(s *btree.State) { s.Nodes[i].Kids = slices.Insert(s.Nodes[i].Kids, j, kid) })
			}
			change(fmt.Sprintf("no kid %d of node %d", j, i), func(s *btree.State) { s.Nodes[i].Kids = slices.Delete(s.Nodes[i].Kids, j, j+1) })
			change(fmt.Sprintf("no kid %d and key of node %d", j, i), func(s *btree.State) {
				n := &s.Nodes[i]
				n.Kids, n.Keys = slices.Delete(n.Kids, j, j+1), slices.Delete(n.Keys, max(0, j-1), max(0, j-1)+1)
			})
		}
		for _, kid := range numbers {
			change(fmt.Sprintf("one kid more of node %d, %d", i, kid), func(s *btree.State) { s.Nodes[i].Kids = append(s.Nodes[i].Kids, kid) })
		}
		for j := range i {
			change(fmt.Sprintf("nodes %d and %d exchanged", i, j), func(s *btree.State) { s.Nodes[i], s.Nodes[j] = s.Nodes[j], s.Nodes[i] })
		}
		change(fmt.Sprint("no node ", i), func(s *btree.State) { s.Nodes = slices.Delete(s.Nodes, i, i+1) })
		change(fmt.Sprint("node twice ", i), func(s *btree.State) { s.Nodes = append(s.Nodes, given(s.Nodes[i])) })
	}
	change("an empty node more", func(s *btree.State) { s.Nodes = append(s.Nodes, btree.Node{}) })
	change("the last node gone", func(s *btree.State) { s.Nodes = s.Nodes[:max(0, len(s.Nodes)-1)] })
}

func TestP121EachThingChanged(t *testing.T) {
	bases := []btree.State{tree(-1), tree(0, leaf("a")), tree(0, leaf("b c d e")), three(), tree(3, leaf("a b c"), leaf("e f"), leaf("i j k l"), over("d i", 0, 1, 2))}
	bases = append(bases, shaped(true, []int{2, 3, 4, 2, 4, 3, 2, 2}, []int{3, 5}), shaped(false, []int{4, 4}))
	seen := map[bool]int{}
	for _, s := range bases {
		changed(s, func(what string, s btree.State) { seen[agrees(t, what, s)]++ })
	}
	if seen[true] < 200 || seen[false] < 8000 {
		t.Errorf("%d may be, %d may not", seen[true], seen[false])
	}
}

func TestP121PairsTooMany(t *testing.T) {
	for n := 2044; n <= 2054; n++ {
		for i, s := range planted(n) {
			if is := agrees(t, fmt.Sprintf("%d pairs, tree %d", n, i), s); is != (n <= 2048) {
				t.Errorf("%d pairs: %t", n, is)
			}
		}
	}
	for _, n := range []int{2500, 4096} {
		for i, s := range planted(n) {
			mayNot(t, fmt.Sprintf("%d pairs, tree %d", n, i), s)
		}
	}
}

// Nodes that go down and down, far more of them than may be, are a state as any other.
func TestP1ChainsOfNodes(t *testing.T) {
	defer debug.SetMaxStack(debug.SetMaxStack(1 << 23))
	const n = 1 << 16
	for _, back := range []int{0, n - 1, n, -1} {
		s := btree.State{Nodes: make([]btree.Node, n)}
		for i := range s.Nodes {
			k := fmt.Sprintf("%06d", 2*(n-i))
			s.Nodes[i] = over(k+"0 "+k+"1", i+1, back, back)
		}
		s.Nodes[n-1] = leaf("000000 000001")
		if err := btree.Check(s); err != api.ErrState {
			t.Errorf("Check = %d", err)
		}
		if next, was, err := btree.Delete(s, "a"); !isZero(next) || was || err != api.ErrState {
			t.Errorf("Delete = %s, %t, %d", brief(next), was, err)
		}
		if deep, err := btree.Depth(s); deep != 0 || err != api.ErrState {
			t.Errorf("Depth = %d, %d", deep, err)
		}
	}
}

func TestP1ManyOfEach(t *testing.T) {
	many := make([]string, 1<<18)
	for i := range many {
		many[i] = fmt.Sprintf("%07d", i)
	}
	mayNot(t, "a leaf of many", tree(0, btree.Node{Keys: many, Values: many}))
	mayNot(t, "many kids", tree(0, btree.Node{Keys: many, Kids: make([]int, 1<<18+1)}))
	mayNot(t, "many nodes", btree.State{Nodes: make([]btree.Node, 1<<18)})
	mayNot(t, "many values", tree(0, btree.Node{Keys: many[:1], Values: many}))
	long := strings.Repeat("a", 1<<16)
	s := tree(0, btree.Node{Keys: []string{long, long + "a"}, Values: []string{long, ""}})
	may(t, "long keys", s, held(s))
}
