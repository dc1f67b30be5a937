package version

import (
	"strings"

	"switchback/api"
)

const (
	maxVersions = api.MaxTxns
	maxTxn      = 1 << 40
	maxValue    = 4096
)

func mayBe(v Version) bool {
	return v.Stamp >= 0 && v.Stamp <= api.MaxStamp && mayWrite(v.Txn) && fits(v.Gone, v.Value)
}

// mayFollow tells whether v may stand right behind that other one.
func mayFollow(v Version, ahead Version) bool {
	return v.Stamp > 0 && (ahead.Stamp == 0 || v.Stamp < ahead.Stamp)
}

func mayWrite(txn int) bool {
	return txn >= 1 && txn <= maxTxn
}

func fits(gone bool, value string) bool {
	return value == "" || !gone && len(value) <= maxValue
}

// committedBy answers what tells of a version whether it is committed, at that
// stamp or ahead of it.
func committedBy(stamp int) func(v Version) bool {
	return func(v Version) bool { return v.Stamp > 0 && v.Stamp <= stamp }
}

// isOpen tells whether a version is txn's, and not yet committed.
func isOpen(v Version, txn int) bool {
	return v.Stamp == 0 && v.Txn == txn
}

// isFirst tells whether txn has a version that is not yet committed: only the
// first may be.
func isFirst(l []Version, txn int) bool {
	return len(l) > 0 && isOpen(l[0], txn)
}

// mayGrow tells what keeps whoever has that snapshot, and no version of his own,
// from a new first one.
func mayGrow(l []Version, snap int) api.Errno {
	switch {
	case len(l) > 0 && !committedBy(snap)(l[0]):
		return api.ErrConflict
	case len(l) == maxVersions:
		return api.ErrFull
	}
	return api.OK
}

// without is l without txn's version that is not yet committed.
func without(l []Version, txn int) []Version {
	if isFirst(l, txn) {
		return l[1:]
	}
	return l
}

// fresh is l in memory of its own.
func fresh(l []Version) []Version {
	next := make([]Version, len(l))
	for i, v := range l {
		v.Value = strings.Clone(v.Value)
		next[i] = v
	}
	return next
}
