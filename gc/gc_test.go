package gc_test

import (
	"fmt"
	"math"
	"slices"
	"strings"
	"testing"

	"switchback/api"
	"switchback/gc"
	"switchback/version"
)

type chain = []version.Version

const most = 1 << 40

// was is a version with a value, gone one by which the key is gone. Stamp 0: not yet committed.
func was(stamp, txn int, value string) version.Version {
	return version.Version{Stamp: stamp, Txn: txn, Value: value}
}

func gone(stamp, txn int) version.Version {
	return version.Version{Stamp: stamp, Txn: txn, Gone: true}
}

// A kept is a key and its versions.
type kept struct {
	key string
	l   chain
}

func of(l ...kept) gc.Chains {
	var c gc.Chains
	for _, k := range l {
		c.Keys = append(c.Keys, k.key)
		c.Lists = append(c.Lists, k.l)
	}
	return c
}

// falling is a chain of n versions, the last of Stamp 10, the one ahead of it of 20 ..., all by txn.
func falling(n, txn int) chain {
	var l chain
	for i := range n {
		l = append(l, was(10*(n-i), txn, "v"))
	}
	return l
}

// many is n keys, 00000, 00002 ..., each with one version of Stamp 1.
func many(n int) gc.Chains {
	var c gc.Chains
	for i := range n {
		c.Keys = append(c.Keys, fmt.Sprintf("%05d", 2*i))
		c.Lists = append(c.Lists, chain{was(1, 1, "v")})
	}
	return c
}

// with is c with one more key, or with those versions of it.
func with(c gc.Chains, key string, l ...version.Version) gc.Chains {
	next := gc.Chains{Keys: slices.Clone(c.Keys), Lists: slices.Clone(c.Lists)}
	at, is := slices.BinarySearch(next.Keys, key)
	if !is {
		next.Keys = slices.Insert(next.Keys, at, key)
		next.Lists = slices.Insert(next.Lists, at, nil)
	}
	next.Lists[at] = l
	return next
}

// without is c without that key.
func without(c gc.Chains, key string) gc.Chains {
	var l []kept
	for i, k := range c.Keys {
		if k != key {
			l = append(l, kept{k, c.Lists[i]})
		}
	}
	return of(l...)
}

// octets are n of them.
func octets(n int) string { return strings.Repeat("o", n) }

// extremes are numbers that no stamp and no transaction has.
var extremes = []int{math.MinInt, -most, -1, math.MaxInt}

func alike(c, other gc.Chains) bool {
	return slices.Equal(c.Keys, other.Keys) && slices.EqualFunc(c.Lists, other.Lists, slices.Equal[chain])
}

func refused(t *testing.T, what string, c gc.Chains, err, want api.Errno) {
	t.Helper()
	if len(c.Keys) != 0 || len(c.Lists) != 0 || err != want {
		t.Errorf("%s = %s, %d, not none, %d", what, brief(c), err, want)
	}
}

func tells(t *testing.T, what string, c gc.Chains, err api.Errno, want gc.Chains) {
	t.Helper()
	if !alike(c, want) || err != api.OK {
		t.Errorf("%s = %s, %d, not %s, 0", what, brief(c), err, brief(want))
	}
	if gc.Check(c) != api.OK {
		t.Errorf("%s: %s may not be", what, brief(c))
	}
}

type checked struct {
	what string
	c    gc.Chains
	err  api.Errno
}

func checks() []checked {
	v := chain{was(1, 1, "v")}
	l := append(checksOfKeys(v), checksOfLists(v)...)
	for what, bad := range map[string]chain{
		"none":                 nil,
		"empty":                {},
		"65 versions":          falling(65, 1),
		"Stamps that rise":     {was(3, 1, "v"), was(5, 1, "v")},
		"Stamps alike":         {was(3, 1, "v"), was(3, 2, "v")},
		"Stamp -1":             {was(-1, 1, "v")},
		"Stamp 2^40 + 1":       {was(most+1, 1, "v")},
		"the second open":      {was(3, 1, "v"), was(0, 1, "v")},
		"Txn 0":                {was(1, 0, "v")},
		"Txn 2^40 + 1":         {was(1, most+1, "v")},
		"Gone with a Value":    {{Stamp: 1, Txn: 1, Gone: true, Value: "v"}},
		"Value of 4097 octets": {was(1, 1, octets(4097))},
	} {
		l = append(l, checked{what + ", alone", of(kept{"a", bad}), api.ErrState})
		l = append(l, checked{what + ", the first", of(kept{"a", bad}, kept{"b", v}, kept{"c", v}), api.ErrState})
		l = append(l, checked{what + ", in the middle", of(kept{"a", v}, kept{"b", bad}, kept{"c", v}), api.ErrState})
		l = append(l, checked{what + ", the last", of(kept{"a", v}, kept{"b", v}, kept{"c", bad}), api.ErrState})
		l = append(l, checked{what + ", the last of 2048", with(many(2047), "x", bad...), api.ErrState})
	}
	return l
}

func checksOfKeys(v chain) []checked {
	no, yes := api.ErrState, api.OK
	return []checked{
		{"nil", gc.Chains{}, yes},
		{"empty", gc.Chains{Keys: []string{}, Lists: []chain{}}, yes},
		{"one", of(kept{"a", v}), yes},
		{"a key of no octets", of(kept{"", v}), yes},
		{"a key of no octets ahead", of(kept{"", v}, kept{"a", v}), yes},
		{"a key of no octets behind", of(kept{"a", v}, kept{"", v}), no},
		{"keys of no octets", of(kept{"", v}, kept{"", v}), no},
		{"2047", many(2047), yes},
		{"2048", many(2048), yes},
		{"2049", many(2049), no},
		{"5000", many(5000), no},
		{"a key without a list", gc.Chains{Keys: []string{"a"}}, no},
		{"a list without a key", gc.Chains{Lists: []chain{v}}, no},
		{"an empty list without a key", gc.Chains{Lists: []chain{nil}}, no},
		{"more keys", gc.Chains{Keys: []string{"a", "b"}, Lists: []chain{v}}, no},
		{"more lists", gc.Chains{Keys: []string{"a"}, Lists: []chain{v, v}}, no},
		{"more lists, 2048 keys", gc.Chains{Keys: many(2048).Keys, Lists: many(2049).Lists}, no},
		{"more keys, 2048 lists", gc.Chains{Keys: many(2049).Keys, Lists: many(2048).Lists}, no},
		{"keys rise", of(kept{"a", v}, kept{"b", v}, kept{"c", v}), yes},
		{"keys fall", of(kept{"b", v}, kept{"a", v}), no},
		{"keys fall at the end", of(kept{"a", v}, kept{"c", v}, kept{"b", v}), no},
		{"keys fall over one", of(kept{"b", v}, kept{"c", v}, kept{"a", v}), no},
		{"keys fall at the beginning", of(kept{"b", v}, kept{"a", v}, kept{"c", v}), no},
		{"keys alike", of(kept{"a", v}, kept{"a", v}), no},
		{"keys alike at the end", of(kept{"a", v}, kept{"b", v}, kept{"b", chain{was(2, 1, "w")}}), no},
		{"a piece of a key ahead", of(kept{"a", v}, kept{"a\x00", v}), yes},
		{"a piece of a key behind", of(kept{"a\x00", v}, kept{"a", v}), no},
		{"octets, not letters", of(kept{"\x7f", v}, kept{"\x80", v}, kept{"\xff", v}, kept{"\xff\xfe", v}), yes},
		{"octets that fall", of(kept{"\x80", v}, kept{"\x7f", v}), no},
		{"large letters ahead", of(kept{"B", v}, kept{"a", v}), yes},
		{"a key of 1024 octets", of(kept{octets(1024), v}), yes},
	}
}

func checksOfLists(v chain) []checked {
	return []checked{
		{"64 versions", of(kept{"a", falling(64, 1)}, kept{"b", falling(64, 1)}), api.OK},
		{"64 versions, the first open", of(kept{"a", append(chain{was(0, 2, "v")}, falling(63, 1)...)}), api.OK},
		{"one open", of(kept{"a", chain{was(0, 1, "v")}}), api.OK},
		{"open ones of several", of(kept{"a", chain{was(0, 1, "v")}}, kept{"b", chain{was(0, 2, "v"), was(3, 1, "v")}}), api.OK},
		{"open ones of one", of(kept{"a", chain{was(0, 1, "v")}}, kept{"b", chain{gone(0, 1), was(3, 1, "v")}}), api.OK},
		{"Stamps alike in several", of(kept{"a", v}, kept{"b", v}, kept{"c", v}), api.OK},
		{"Stamps that fall, and rise", of(kept{"a", falling(1, 1)}, kept{"b", falling(3, 1)}, kept{"c", falling(2, 1)}), api.OK},
		{"Gone alone", of(kept{"a", chain{gone(1, 1)}}), api.OK},
		{"Gone ones", of(kept{"a", chain{gone(0, 4), gone(3, 1), gone(2, 1)}}), api.OK},
		{"greatest", of(kept{"a", chain{was(most, most, octets(4096))}}), api.OK},
	}
}

func TestP181Check(t *testing.T) {
	for _, c := range checks() {
		if err := gc.Check(c.c); err != c.err {
			t.Errorf("%s: Check(%s) = %d, not %d", c.what, brief(c.c), err, c.err)
		}
	}
}

// Whatever else is wrong, or right: Check's error is told, and nothing beside it.
func TestP181CheckGoesFirst(t *testing.T) {
	for _, c := range checks() {
		if c.err == api.OK {
			continue
		}
		for _, key := range []string{"", "a", "b", "00000", "x", octets(1025)} {
			for _, n := range []int{0, 1, math.MinInt, math.MaxInt} {
				if v, is, stamp, err := gc.Get(c.c, key, n, 1); v != "" || is || stamp != 0 || err != api.ErrState {
					t.Errorf("%s: Get = %q, %t, %d, %d", c.what, v, is, stamp, err)
				}
				if l, err := gc.Range(c.c, key, "", n, 1); len(l) > 0 || err != api.ErrState {
					t.Errorf("%s: Range = %q, %d", c.what, l, err)
				}
				next, err := gc.Put(c.c, key, n, 1, n == 0, "")
				refused(t, c.what+": Put", next, err, api.ErrState)
				next, err = gc.Put(c.c, key, 1, n, true, octets(4097))
				refused(t, c.what+": Put", next, err, api.ErrState)
			}
		}
		for _, n := range []int{0, 1, 2, most + 1, math.MinInt, math.MaxInt} {
			for txn := range 3 {
				next, err := gc.Commit(c.c, txn, n)
				refused(t, c.what+": Commit", next, err, api.ErrState)
			}
			next, err := gc.Undo(c.c, n)
			refused(t, c.what+": Undo", next, err, api.ErrState)
			next, went, err := gc.Sweep(c.c, n)
			refused(t, c.what+": Sweep", next, err, api.ErrState)
			if went != 0 {
				t.Errorf("%s: Sweep: %d went", c.what, went)
			}
		}
	}
}
