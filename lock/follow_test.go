package lock_test

import (
	"slices"
	"testing"

	"switchback/api"
	"switchback/lock"
)

// readersOf are, of each of these keys, who has locked it.
func readersOf(t *testing.T, s lock.State, keys []string) [][]int {
	t.Helper()
	var all [][]int
	for _, key := range keys {
		l, err := lock.Readers(s, key)
		if err != api.OK {
			t.Fatalf("Readers(%s, %q) = %d", brief(s), key, err)
		}
		all = append(all, l)
	}
	return all
}

// probes are all cuts, and keys between them.
func (w line) probes() []string {
	var keys []string
	for _, key := range w {
		keys = append(keys, key, key+"\x00", key+"\xff", key+"m")
	}
	return keys
}

// stays: who had locked a key still has, but for one who was dropped.
func stays(t *testing.T, what string, s, next lock.State, keys []string, dropped int) {
	t.Helper()
	ahead, behind := readersOf(t, s, keys), readersOf(t, next, keys)
	for i, l := range ahead {
		for _, txn := range l {
			if txn != dropped && !slices.Contains(behind[i], txn) {
				t.Fatalf("%s: %s, then %s: %d has not locked %q any more", what, brief(s), brief(next), txn, keys[i])
			}
		}
	}
}

// gains: who has locked a key either had, or is that one. Others' locks are just as they were.
func gains(t *testing.T, what string, s, next lock.State, txn int) {
	t.Helper()
	others := func(l locks) locks {
		return slices.DeleteFunc(slices.Clone(l), func(one lock.Lock) bool { return one.Txn == txn })
	}
	if !slices.Equal(others(s.Locks), others(next.Locks)) {
		t.Fatalf("%s of %d: %s, then %s: others' locks are changed", what, txn, brief(s), brief(next))
	}
}

// Of states that no call made, too.
func TestP163WhatWasReadStaysLocked(t *testing.T) {
	next := rolled(163)
	for range 400 {
		w := rolledLine(next)
		s := of(w.rolledLocks(next)...)
		x := w.some(next, s.Locks)
		keys := w.probes()
		if after, err := lock.Add(s, x); err == api.OK {
			stays(t, "Add", s, after, keys, 0)
			gains(t, "Add", s, after, x.Txn)
			stays(t, "Add: what is added", of(x), after, keys, 0)
		}
		key := keys[next(len(keys))]
		if after, err := lock.Read(s, x.Txn, key); err == api.OK {
			stays(t, "Read", s, after, keys, 0)
			gains(t, "Read", s, after, x.Txn)
			if l, _ := lock.Readers(after, key); !slices.Contains(l, x.Txn) {
				t.Fatalf("Read: %s: %d has not locked %q", brief(after), x.Txn, key)
			}
		}
		after, err := lock.Widen(s, x.Txn, 1+next(3))
		if err != api.OK {
			t.Fatal("Widen:", err)
		}
		stays(t, "Widen", s, after, keys, 0)
		gains(t, "Widen", s, after, x.Txn)
		after, err = lock.Drop(s, x.Txn)
		if err != api.OK {
			t.Fatal("Drop:", err)
		}
		stays(t, "Drop", s, after, keys, x.Txn)
		gains(t, "Drop", s, after, x.Txn)
		for i, l := range readersOf(t, after, keys) {
			if slices.Contains(l, x.Txn) {
				t.Fatalf("Drop: %s: %d still has %q", brief(after), x.Txn, keys[i])
			}
		}
	}
}

// Many calls one after another: who reads a key is known by the cells that each has read, and what calls have made of them never touches.
func TestP163ManyCalls(t *testing.T) {
	next := rolled(164)
	made, wider, full := 0, 0, 0
	for range 200 {
		w := rolledLine(next)
		s := lock.State{}
		read := map[int]uint64{}
		for range 60 {
			txn := txns[next(len(txns))]
			switch next(12) {
			case 0:
				s = must(t)(lock.Drop(s, txn))
				read[txn] = 0
			case 1:
				n := 1 + next(4)
				was := len(s.Locks)
				s = must(t)(lock.Widen(s, txn, n))
				if len(s.Locks) < was {
					read[txn] = w.whole(read[txn])
					wider++
				}
			case 2, 3, 4:
				key := w.keys()[next(len(w.keys()))]
				s = must(t)(lock.Read(s, txn, key))
				read[txn] |= 1 << w.cell(key)
			default:
				x := w.rolledLock(next, txn)
				s = must(t)(lock.Add(s, x))
				read[txn] |= w.cells(x)
			}
			made++
			for i, l := range readersOf(t, s, w) {
				for _, txn := range txns {
					if slices.Contains(l, txn) != (read[txn]>>i&1 == 1) {
						t.Fatalf("%s: %q is locked by %d; of %d that is wrong", brief(s), w[i], l, txn)
					}
				}
			}
			for i, l := range s.Locks {
				if i > 0 && l.Txn == s.Locks[i-1].Txn && (s.Locks[i-1].High == "" || l.Low <= s.Locks[i-1].High) {
					t.Fatalf("%s: two of one Txn touch", brief(s))
				}
			}
			full = max(full, len(s.Locks))
		}
	}
	if made < 10000 || wider < 100 || full < 30 {
		t.Error("just", made, "calls,", wider, "that made one of many, at most", full, "locks")
	}
}

func must(t *testing.T) func(s lock.State, err api.Errno) lock.State {
	return func(s lock.State, err api.Errno) lock.State {
		t.Helper()
		if err != api.OK || lock.Check(s) != api.OK {
			t.Fatalf("%s, %d", brief(s), err)
		}
		return s
	}
}
