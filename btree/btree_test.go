package btree_test

import (
	"cmp"
	"fmt"
	"slices"
	"strings"
	"testing"

	"switchback/api"
	"switchback/btree"
)

// key is the n-th of many keys, rising. Trees are built of odd ones, so that there is room for a new one at each place.
func key(n int) string { return fmt.Sprintf("%05d", n) }

// value is what trees that are built have under a key.
func value(key string) string { return "of " + key }

// leaf is a node of pairs with those keys.
func leaf(keys string) btree.Node {
	n := btree.Node{Keys: strings.Fields(keys)}
	for _, k := range n.Keys {
		n.Values = append(n.Values, value(k))
	}
	return n
}

// over is a node above others.
func over(keys string, kids ...int) btree.Node {
	return btree.Node{Keys: strings.Fields(keys), Kids: kids}
}

func tree(root int, nodes ...btree.Node) btree.State {
	return btree.State{Nodes: nodes, Root: root}
}

// A plant is a node while a tree is built, with the least key that it has.
type plant struct {
	number int
	least  string
}

// A planter builds trees level by level, from the leaves on, without any call of btree.
type planter struct {
	s btree.State
	// cut answers how many of n things each node of a level has, of which a node may have from least to most.
	cut func(level, n, least, most int) []int
	// apart is that what stands between two nodes is no key of either.
	apart bool
}

func (p *planter) add(n btree.Node, least string) plant {
	p.s.Nodes = append(p.s.Nodes, n)
	return plant{len(p.s.Nodes) - 1, least}
}

func (p *planter) leaves(n int) []plant {
	var l []plant
	next := 1
	for _, size := range p.cut(0, n, 2, 4) {
		var keys []string
		for range size {
			keys, next = append(keys, key(next)), next+2
		}
		l = append(l, p.add(leaf(strings.Join(keys, " ")), keys[0]))
	}
	return l
}

func (p *planter) above(level int, kids []plant) []plant {
	var l []plant
	for _, size := range p.cut(level, len(kids), 3, 5) {
		var n btree.Node
		for i, kid := range kids[:size] {
			n.Kids = append(n.Kids, kid.number)
			if i > 0 && p.apart {
				n.Keys = append(n.Keys, kid.least[:4]+string(kid.least[4]-1))
			} else if i > 0 {
				n.Keys = append(n.Keys, kid.least)
			}
		}
		l = append(l, p.add(n, kids[0].least))
		kids = kids[size:]
	}
	return l
}

func (p planter) tree(n int) btree.State {
	if n == 0 {
		return tree(-1)
	}
	l := p.leaves(n)
	for level := 1; len(l) > 1; level++ {
		l = p.above(level, l)
	}
	p.s.Root = l[0].number
	return p.s
}

// thinly and thickly cut things into groups of nearly one size: as many as may be, and as few.
func thinly(_, n, least, _ int) []int { return evenly(n, max(1, n/least)) }

func thickly(_, n, _, most int) []int { return evenly(n, (n+most-1)/most) }

func evenly(n, groups int) []int {
	l := make([]int, groups)
	for i := range n {
		l[i%groups]++
	}
	return l
}

// planted are trees of n pairs, in each way in which they are built. Keys are the odd ones from 1 on.
func planted(n int) []btree.State {
	var l []btree.State
	for _, p := range []planter{{cut: thickly}, {cut: thinly}, {cut: thickly, apart: true}, {cut: thinly, apart: true}} {
		l = append(l, p.tree(n))
	}
	return l
}

// shaped is a tree whose leaves have so many pairs, and, level by level, what stands above them so many kids.
func shaped(apart bool, sizes ...[]int) btree.State {
	n := 0
	for _, size := range sizes[0] {
		n += size
	}
	cut := func(level, n, _, _ int) []int {
		if level == len(sizes) {
			return []int{n}
		}
		return sizes[level]
	}
	return planter{cut: cut, apart: apart}.tree(n)
}

// sizes hands out each list of n numbers from least to most.
func sizes(n, least, most int, yield func(l []int)) {
	l := make([]int, n)
	var fill func(i int)
	fill = func(i int) {
		if i == n {
			yield(slices.Clone(l))
			return
		}
		for l[i] = least; l[i] <= most; l[i]++ {
			fill(i + 1)
		}
	}
	fill(0)
}

// renumbered is s with its nodes in another order.
func renumbered(s btree.State, next func(n int) int) btree.State {
	to := make([]int, len(s.Nodes))
	for i := range to {
		to[i] = i
	}
	for i := range to {
		j := i + next(len(to)-i)
		to[i], to[j] = to[j], to[i]
	}
	r := btree.State{Nodes: make([]btree.Node, len(s.Nodes)), Root: s.Root}
	for i, n := range s.Nodes {
		n.Kids = slices.Clone(n.Kids)
		for j := range n.Kids {
			n.Kids[j] = to[n.Kids[j]]
		}
		r.Nodes[to[i]] = n
	}
	if len(to) > 0 {
		r.Root = to[s.Root]
	}
	return r
}

// rolled answers numbers below a bound, the same each time.
func rolled(seed uint64) func(n int) int {
	return func(n int) int {
		seed = seed*6364136223846793005 + 1442695040888963407
		return int(seed >> 33 % uint64(n))
	}
}

// within are all keys of a node and of those below it. Of a tree whose nodes are each a kid of one it ends.
func within(s btree.State, at int) []string {
	l := slices.Clone(s.Nodes[at].Keys)
	for _, kid := range s.Nodes[at].Kids {
		l = append(l, within(s, kid)...)
	}
	return l
}

// mayBe is a second reading of which trees may be, from the words of the chapter.
func mayBe(s btree.State) bool {
	if len(s.Nodes) == 0 {
		return s.Root == -1
	}
	if s.Root < 0 || s.Root >= len(s.Nodes) {
		return false
	}
	above := make([]int, len(s.Nodes))
	pairs := 0
	for i, n := range s.Nodes {
		isLeaf, least := len(n.Kids) == 0, 2
		if i == s.Root {
			least = 1
		}
		if len(n.Keys) < least || len(n.Keys) > 4 || isLeaf && len(n.Values) != len(n.Keys) || !isLeaf && len(n.Values)+len(n.Kids) != len(n.Keys)+1 || !isLeaf && len(n.Values) > 0 {
			return false
		}
		for j := range n.Keys {
			if j > 0 && !(n.Keys[j-1] < n.Keys[j]) {
				return false
			}
		}
		for _, kid := range n.Kids {
			if kid < 0 || kid >= len(s.Nodes) {
				return false
			}
			above[kid]++
		}
		pairs += len(n.Values)
	}
	for i, n := range above {
		if (i == s.Root) != (n == 0) || n > 1 {
			return false
		}
	}
	return pairs <= 2048 && levels(s) > 0 && areParted(s)
}

// levels answers how many levels of nodes there are from the root down, or 0, where one of them has leaves beside others, or not all nodes are met. Each node is a kid of at most one.
func levels(s btree.State) int {
	met, level, deep := 0, []int{s.Root}, 0
	for len(level) > 0 {
		var below []int
		leaves := 0
		for _, at := range level {
			below = append(below, s.Nodes[at].Kids...)
			if len(s.Nodes[at].Kids) == 0 {
				leaves++
			}
		}
		if leaves > 0 && leaves < len(level) {
			return 0
		}
		met, level, deep = met+len(level), below, deep+1
	}
	if met < len(s.Nodes) {
		return 0
	}
	return deep
}

// areParted tells whether the keys within each kid are parted by those of the node above it.
func areParted(s btree.State) bool {
	for _, n := range s.Nodes {
		for i, kid := range n.Kids {
			for _, k := range within(s, kid) {
				if i > 0 && k < n.Keys[i-1] || i < len(n.Keys) && k >= n.Keys[i] {
					return false
				}
			}
		}
	}
	return true
}

// held are the pairs of a tree's leaves, by key.
func held(s btree.State) []api.Pair {
	var l []api.Pair
	for _, n := range s.Nodes {
		for i, v := range n.Values {
			l = append(l, api.Pair{Key: n.Keys[i], Value: v})
		}
	}
	slices.SortFunc(l, func(p, q api.Pair) int { return cmp.Compare(p.Key, q.Key) })
	return l
}

func isZero(s btree.State) bool {
	return len(s.Nodes) == 0 && s.Root == 0
}

// brief shows a tree, cut if it is long.
func brief(s btree.State) string {
	shown := fmt.Sprint("root ", s.Root)
	for i, n := range s.Nodes {
		shown += fmt.Sprintf(", %d: %q %q %d", i, n.Keys, n.Values, n.Kids)
		if len(shown) > 2000 {
			return shown + " .."
		}
	}
	return shown
}

// may holds that a tree may be, in both readings, that it has just these pairs, and that it is no deeper than as many pairs allow.
func may(t *testing.T, what string, s btree.State, want []api.Pair) {
	t.Helper()
	if err := btree.Check(s); err != api.OK || !mayBe(s) {
		t.Fatalf("%s: Check of %s = %d; by the chapter %t", what, brief(s), err, mayBe(s))
	}
	if l := held(s); !slices.Equal(l, want) {
		t.Fatalf("%s: %s has %d pairs, not %d: %q, not %q", what, brief(s), len(l), len(want), l, want)
	}
	if l, err := btree.Range(s, "", ""); err != api.OK || !slices.Equal(l, want) {
		t.Fatalf("%s: Range of %s = %q, %d, not %q", what, brief(s), l, err, want)
	}
	deep, err := btree.Depth(s)
	if err != api.OK || len(want) > 0 && deep != levels(s) || len(want) == 0 && deep != 0 {
		t.Fatalf("%s: Depth of %s = %d, %d", what, brief(s), deep, err)
	}
	if len(want) < leastPairs(deep) || len(want) > mostPairs(deep) {
		t.Fatalf("%s: %d pairs stand %d deep", what, len(want), deep)
	}
}

// leastPairs and mostPairs are how many pairs a tree has that is so deep.
func leastPairs(deep int) int {
	if deep <= 1 {
		return deep
	}
	n := 4
	for range deep - 2 {
		n *= 3
	}
	return n
}

func mostPairs(deep int) int {
	if deep == 0 {
		return 0
	}
	n := 4
	for range deep - 1 {
		n *= 5
	}
	return min(n, 2048)
}

// mayNot holds that a tree may not be, in both readings, and that all calls tell so.
func mayNot(t *testing.T, what string, s btree.State) {
	t.Helper()
	if err := btree.Check(s); err != api.ErrState || mayBe(s) {
		t.Errorf("%s: Check of %s = %d; by the chapter %t", what, brief(s), err, mayBe(s))
	}
	for _, k := range []string{"", "a", "c", "d", "zz", key(1), key(2), key(4001)} {
		if next, err := btree.Put(s, k, "x"); !isZero(next) || err != api.ErrState {
			t.Errorf("%s: Put(%q) = %s, %d", what, k, brief(next), err)
		}
		if next, was, err := btree.Delete(s, k); !isZero(next) || was || err != api.ErrState {
			t.Errorf("%s: Delete(%q) = %s, %t, %d", what, k, brief(next), was, err)
		}
		if v, is, err := btree.Get(s, k); v != "" || is || err != api.ErrState {
			t.Errorf("%s: Get(%q) = %q, %t, %d", what, k, v, is, err)
		}
		for _, to := range []string{"", "c", k} {
			if l, err := btree.Range(s, k, to); len(l) != 0 || err != api.ErrState {
				t.Errorf("%s: Range(%q, %q) = %q, %d", what, k, to, l, err)
			}
		}
	}
	if deep, err := btree.Depth(s); deep != 0 || err != api.ErrState {
		t.Errorf("%s: Depth = %d, %d", what, deep, err)
	}
}

// The example of the chapter.
func TestP121Example(t *testing.T) {
	s := btree.New()
	var want []api.Pair
	for i, k := range []string{"c", "a", "e", "b", "d"} {
		next, err := btree.Put(s, k, k)
		if err != api.OK {
			t.Fatalf("Put(%s) = %d", k, err)
		}
		want = append(want, api.Pair{Key: k, Value: k})
		slices.SortFunc(want, func(p, q api.Pair) int { return cmp.Compare(p.Key, q.Key) })
		may(t, fmt.Sprint("Put ", i), next, want)
		s = next
	}
	leaves := 0
	for _, n := range s.Nodes {
		if len(n.Kids) == 0 {
			leaves++
		}
	}
	if len(s.Nodes) != 3 || leaves != 2 || len(s.Nodes[s.Root].Keys) != 1 {
		t.Errorf("five keys are %s", brief(s))
	}
}

func TestP121New(t *testing.T) {
	s := btree.New()
	if len(s.Nodes) != 0 || s.Root != -1 {
		t.Errorf("New = %s", brief(s))
	}
	may(t, "New", s, nil)
}

// What the other tests build by hand is what they take it for.
func TestPlantedTrees(t *testing.T) {
	deepest := map[int]bool{}
	for n := range 2049 {
		if n > 300 && n < 2040 && n%97 > 0 && n != 324 && n != 972 {
			continue
		}
		for i, s := range planted(n) {
			var want []api.Pair
			for j := range n {
				want = append(want, api.Pair{Key: key(2*j + 1), Value: value(key(2*j + 1))})
			}
			if !mayBe(s) || !slices.Equal(held(s), want) {
				t.Fatalf("tree %d of %d pairs: %s", i, n, brief(s))
			}
			if n > 0 {
				deepest[levels(s)] = true
			}
		}
	}
	for deep := 1; deep <= 7; deep++ {
		if !deepest[deep] {
			t.Errorf("no tree is %d deep", deep)
		}
	}
}
