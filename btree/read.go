package btree

import "switchback/api"

// How many keys a node has. The root alone may have fewer than leastKeys: one.
const (
	leastKeys = 2
	mostKeys  = 4
)

// read answers the root of s, whose keys and values are those of s.
func read(s State) (root *branch, err api.Errno) {
	defer func() {
		if fault := recover(); fault != nil {
			root, err = nil, fault.(api.Errno)
		}
	}()
	r := reader{State: s, met: map[int]struct{}{}}
	return r.root(), api.OK
}

// A reader goes down from a state's root. Where the state may not be it panics
// with the error's number, which read recovers.
type reader struct {
	State
	met   map[int]struct{}
	pairs int
	// How deep the leaves stand; ahead of the first one 0.
	leaves int
}

func must(holds bool) {
	if !holds {
		panic(api.ErrState)
	}
}

func (r *reader) root() *branch {
	if len(r.Nodes) == 0 {
		must(r.Root == noRoot)
		return &branch{}
	}
	// As nodes part in two at the root, in three below it, and hold two pairs in
	// the end, they are fewer than the pairs, or there is one. To ask this ahead
	// keeps the way down short, whatever is given.
	must(len(r.Nodes) <= api.MaxKeys)
	root := r.branch(r.Root, span{}, 1)
	must(len(r.met) == len(r.Nodes))
	return root
}

// branch reads a node and all below it, whose keys the span must hold.
func (r *reader) branch(at int, keys span, deep int) *branch {
	n := r.meet(at)
	must(r.isFormed(at) && keys.holds(n.Keys))
	if len(n.Kids) == 0 {
		r.leaf(len(n.Keys), deep)
	}
	b := &branch{keys: n.Keys, values: n.Values, kids: make([]*branch, len(n.Kids))}
	for i, kid := range n.Kids {
		b.kids[i] = r.branch(kid, keys.part(n.Keys, i), deep+1)
	}
	return b
}

// meet answers a node that was not met before.
func (r *reader) meet(at int) Node {
	must(at >= 0 && at < len(r.Nodes))
	_, is := r.met[at]
	must(!is)
	r.met[at] = struct{}{}
	return r.Nodes[at]
}

// isFormed tells whether a node has as many things in each list as it may have.
func (r *reader) isFormed(at int) bool {
	n, least := r.Nodes[at], leastKeys
	if at == r.Root {
		least = 1
	}
	if len(n.Keys) < least || len(n.Keys) > mostKeys {
		return false
	}
	if len(n.Kids) == 0 {
		return len(n.Values) == len(n.Keys)
	}
	return len(n.Values) == 0 && len(n.Kids) == len(n.Keys)+1
}

func (r *reader) leaf(pairs int, deep int) {
	if r.leaves == 0 {
		r.leaves = deep
	}
	r.pairs += pairs
	must(r.leaves == deep && r.pairs <= api.MaxKeys)
}

// A span is of keys: from from on, and below to, if it ends. An end of "" is
// not the same as none: no key is below it.
type span struct {
	from string
	to   string
	ends bool
}

// part is what a node's i-th kid has of the node's span.
func (s span) part(keys []string, i int) span {
	if i > 0 {
		s.from = keys[i-1]
	}
	if i < len(keys) {
		s.to, s.ends = keys[i], true
	}
	return s
}

// holds tells whether keys rise and all lie within the span.
func (s span) holds(keys []string) bool {
	for i, key := range keys {
		if key < s.from || s.ends && key >= s.to || i > 0 && key <= keys[i-1] {
			return false
		}
	}
	return true
}
