package lock

import (
	"cmp"
	"slices"
	"strings"
)

const maxTxn = 1 << 40

func mayBe(l Lock) bool {
	return l.Txn >= 1 && l.Txn <= maxTxn && endsBehind(l, l.Low)
}

// endsBehind tells whether l goes further than that key: it is below l's end.
func endsBehind(l Lock, key string) bool {
	return l.High == "" || key < l.High
}

// isWithin tells whether that lock of the same Txn has all of x.
func (x Lock) isWithin(l Lock) bool {
	return l.Txn == x.Txn && l.Low <= x.Low && order(x.High, l.High) <= 0
}

// touching answers what tells whether a lock of x's Txn has a key in common with
// x, or begins where that ends, or ends where that begins.
func touching(x Lock) func(l Lock) bool {
	return func(l Lock) bool {
		return l.Txn == x.Txn && goesTo(l, x.Low) && goesTo(x, l.Low)
	}
}

// goesTo tells whether a lock that begins at that key begins at l's end at the
// latest.
func goesTo(l Lock, key string) bool {
	return endsBehind(l, key) || l.High == key
}

// ownedBy answers what tells whether a lock is txn's.
func ownedBy(txn int) func(l Lock) bool {
	return func(l Lock) bool { return l.Txn == txn }
}

// order is that of two ends, of which "" is the last.
func order(high, other string) int {
	switch {
	case high == other:
		return 0
	case high == "":
		return 1
	case other == "":
		return -1
	}
	return strings.Compare(high, other)
}

// inOrder is the order of two locks in a state.
func inOrder(l, other Lock) int {
	return cmp.Or(cmp.Compare(l.Txn, other.Txn), strings.Compare(l.Low, other.Low), order(l.High, other.High))
}

// parted is what of l is meant, and what is not.
func parted(l []Lock, isMeant func(Lock) bool) ([]Lock, []Lock) {
	var meant, others []Lock
	for _, one := range l {
		if isMeant(one) {
			meant = append(meant, one)
		} else {
			others = append(others, one)
		}
	}
	return meant, others
}

// asOne is l with what is meant of it and x as one lock.
func asOne(l []Lock, x Lock, isMeant func(Lock) bool) []Lock {
	meant, others := parted(l, isMeant)
	for _, one := range meant {
		x.Low = min(x.Low, one.Low)
		if order(one.High, x.High) > 0 {
			x.High = one.High
		}
	}
	at, _ := slices.BinarySearchFunc(others, x, inOrder)
	return slices.Insert(others, at, x)
}

// fresh is a state of these locks, in memory of its own.
func fresh(l []Lock) State {
	locks := make([]Lock, len(l))
	for i, one := range l {
		locks[i] = Lock{Txn: one.Txn, Low: strings.Clone(one.Low), High: strings.Clone(one.High)}
	}
	return State{Locks: locks}
}
