package gc

import (
	"slices"
	"strings"

	"switchback/api"
	"switchback/version"
)

const maxKey = 1024

// find answers where a key stands, or would stand, and its versions: none, if it
// is not there.
func find(c Chains, key string) (int, []version.Version) {
	at, is := slices.BinarySearch(c.Keys, key)
	if !is {
		return at, nil
	}
	return at, c.Lists[at]
}

func isWithin(key, from, to string) bool {
	return key >= from && (to == "" || key < to)
}

// isOpen tells whether a version is txn's, and not yet committed.
func isOpen(v version.Version, txn int) bool {
	return v.Stamp == 0 && v.Txn == txn
}

// turned is c with each chain as turn makes it, in memory of its own, but without
// those of which turn leaves nothing.
func turned(c Chains, turn func([]version.Version) ([]version.Version, api.Errno)) (Chains, api.Errno) {
	var next Chains
	for i, was := range c.Lists {
		l, err := turn(was)
		if err != api.OK {
			return Chains{}, err
		}
		if len(l) > 0 {
			next.Keys = append(next.Keys, strings.Clone(c.Keys[i]))
			next.Lists = append(next.Lists, l)
		}
	}
	return next, api.OK
}

// fresh is c in memory of its own.
func fresh(c Chains) Chains {
	next := Chains{Keys: make([]string, len(c.Keys)), Lists: make([][]version.Version, len(c.Lists))}
	for i, l := range c.Lists {
		next.Keys[i] = strings.Clone(c.Keys[i])
		next.Lists[i] = copied(l)
	}
	return next
}

// copied is l in memory of its own.
func copied(l []version.Version) []version.Version {
	next := make([]version.Version, len(l))
	for i, v := range l {
		v.Value = strings.Clone(v.Value)
		next[i] = v
	}
	return next
}
