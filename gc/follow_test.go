package gc_test

import (
	"fmt"
	"maps"
	"slices"
	"testing"

	"switchback/api"
	"switchback/gc"
)

// toldAlike: what txn is told of both is one thing. That a key is gone may be told by no version.
func toldAlike(t *testing.T, what string, c, left gc.Chains, key string, snap, txn int) {
	t.Helper()
	what = fmt.Sprintf("%s: %s and %s: snap %d, txn %d", what, brief(c), brief(left), snap, txn)
	v, is, stamp, err := gc.Get(c, key, snap, txn)
	w, still, later, errp := gc.Get(left, key, snap, txn)
	if v != w || is != still || err != api.OK || errp != api.OK || stamp != later && (is || later != 0) {
		t.Fatalf("%s: Get(%q) = %q, %t, %d, %d, and then %q, %t, %d, %d", what, key, v, is, stamp, err, w, still, later, errp)
	}
	for _, span := range [][2]string{{"", ""}, {key, ""}, {"", key}, {key, key + "\x00"}} {
		l, err := gc.Range(c, span[0], span[1], snap, txn)
		m, errp := gc.Range(left, span[0], span[1], snap, txn)
		if !slices.Equal(l, m) || err != api.OK || errp != api.OK {
			t.Fatalf("%s: Range(%q) = %q, %d, and then %q, %d", what, span, l, err, m, errp)
		}
	}
	// Who is refused is refused, but for want of room.
	_, err = gc.Put(c, key, snap, txn, false, "w")
	if _, errp = gc.Put(left, key, snap, txn, false, "w"); err != errp && err != api.ErrFull {
		t.Fatalf("%s: Put(%q) = %d, and then %d", what, key, err, errp)
	}
}

func TestP183AllPairsOfShortChains(t *testing.T) {
	chains := shortChains()[1:]
	for _, a := range chains {
		for _, b := range chains {
			c := of(kept{"a", a}, kept{"b", b})
			for horizon := -1; horizon <= 4; horizon++ {
				left, _, err := gc.Sweep(c, horizon)
				if err != api.OK {
					t.Fatalf("Sweep(%s, %d) = %d", brief(c), horizon, err)
				}
				for snap := horizon; snap <= 4; snap++ {
					for txn := range 4 {
						toldAlike(t, fmt.Sprint("horizon ", horizon), c, left, []string{"a", "b", "c"}[(snap+txn+1)%3], snap, txn)
					}
				}
			}
		}
	}
}

func TestP183RolledChains(t *testing.T) {
	next := rolled(183)
	took := 0
	for range 6000 {
		c := rolledChains(next)
		horizon := someVersion(next, c).Stamp + next(3) - 1
		left, went, err := gc.Sweep(c, horizon)
		if err != api.OK {
			t.Fatalf("Sweep(%s, %d) = %d", brief(c), horizon, err)
		}
		took += went
		for range 8 {
			toldAlike(t, fmt.Sprint("horizon ", horizon), c, left, someKey(next, c), max(horizon, someStamp(next, c)), someTxn(next, c))
		}
	}
	if took < 6000 {
		t.Error("just", took, "versions went")
	}
}

// A writer has a snapshot, and what it wrote: values, or none of keys that are gone.
type writer struct {
	id, snap int
	wrote    map[string]*string
}

// sees is what a writer ought to be told of all keys: what it wrote itself, or else what was committed as it began.
func (w writer) sees(past []map[string]string) map[string]string {
	all := maps.Clone(past[w.snap])
	for key, value := range w.wrote {
		delete(all, key)
		if value != nil {
			all[key] = *value
		}
	}
	return all
}

// A run is many who write several keys, several at a time: swept and unswept chains side by side, and what was committed at each stamp.
type run struct {
	swept, whole gc.Chains
	past         []map[string]string
	last         map[string]int // when a key was committed last
	active       []writer
	ids          int
	conflicts    int
	commits      int
	went         int
}

func (r *run) put(t *testing.T, w writer, key string, value *string) {
	text := ""
	if value != nil {
		text = *value
	}
	swept, err := gc.Put(r.swept, key, w.snap, w.id, value == nil, text)
	whole, errw := gc.Put(r.whole, key, w.snap, w.id, value == nil, text)
	isLate := r.last[key] > w.snap
	for _, other := range r.active {
		if _, is := other.wrote[key]; is {
			isLate = other.id != w.id
		}
	}
	switch {
	case err != errw:
		t.Fatalf("Put(%s, %q) = %d, of all that was %d", brief(r.swept), key, err, errw)
	case isLate && err == api.ErrConflict:
		r.conflicts++
	case isLate || err != api.OK:
		t.Fatalf("Put(%s, %q, %d, %d) = %d", brief(r.swept), key, w.snap, w.id, err)
	default:
		r.swept, r.whole = swept, whole
		w.wrote[key] = value
	}
}

func (r *run) commit(t *testing.T, at int) {
	w := r.active[at]
	stamp := len(r.past)
	swept, err := gc.Commit(r.swept, w.id, stamp)
	whole, errw := gc.Commit(r.whole, w.id, stamp)
	if err != api.OK || errw != api.OK {
		t.Fatalf("Commit(%s, %d, %d) = %d, of all that was %d", brief(r.swept), w.id, stamp, err, errw)
	}
	r.swept, r.whole = swept, whole
	w.snap = stamp - 1
	r.past = append(r.past, w.sees(r.past))
	for key := range w.wrote {
		r.last[key] = stamp
	}
	r.active = slices.Delete(r.active, at, at+1)
	r.commits++
}

func (r *run) undo(t *testing.T, at int) {
	var err, errw api.Errno
	r.swept, err = gc.Undo(r.swept, r.active[at].id)
	r.whole, errw = gc.Undo(r.whole, r.active[at].id)
	if err != api.OK || errw != api.OK {
		t.Fatal("Undo:", err, errw)
	}
	r.active = slices.Delete(r.active, at, at+1)
}

func (r *run) sweep(t *testing.T) {
	horizon := len(r.past) - 1
	for _, w := range r.active {
		horizon = min(horizon, w.snap)
	}
	before := 0
	for _, l := range r.swept.Lists {
		before += len(l)
	}
	next, went, err := gc.Sweep(r.swept, horizon)
	for _, l := range next.Lists {
		before -= len(l)
	}
	if err != api.OK || went != before {
		t.Fatalf("Sweep(%s, %d) = %s, %d, %d", brief(r.swept), horizon, brief(next), went, err)
	}
	r.swept = next
	r.went += went
}

// look asks each that is active for all that it sees.
func (r *run) look(t *testing.T) {
	for _, w := range r.active {
		want := w.sees(r.past)
		for _, c := range []gc.Chains{r.swept, r.whole} {
			l, err := gc.Range(c, "", "", w.snap, w.id)
			if len(l) != len(want) || err != api.OK {
				t.Fatalf("Range(%s, %d, %d) = %q, %d, not %q", brief(c), w.snap, w.id, l, err, want)
			}
			for _, p := range l {
				value, is := want[p.Key]
				v, isThere, _, err := gc.Get(c, p.Key, w.snap, w.id)
				if !is || value != p.Value || v != value || !isThere || err != api.OK {
					t.Fatalf("%s: snap %d, txn %d: %q and %q, not %q", brief(c), w.snap, w.id, p, v, value)
				}
			}
		}
	}
}

// Each sees what had been committed as it began, whether swept or not, and wherever sweeps come.
func TestP183ManyWriters(t *testing.T) {
	next := rolled(1830)
	conflicts, commits, went := 0, 0, 0
	for range 60 {
		r := &run{past: []map[string]string{{}}, last: map[string]int{}}
		for range 200 {
			if len(r.active) == 0 || len(r.active) < 4 && next(3) == 0 {
				r.ids++
				r.active = append(r.active, writer{r.ids, len(r.past) - 1, map[string]*string{}})
			}
			at := next(len(r.active))
			switch next(8) {
			case 0, 1, 2, 3:
				key, value := string(rune('a'+next(6))), octets(next(9))
				if next(3) == 0 {
					r.put(t, r.active[at], key, nil)
				} else {
					r.put(t, r.active[at], key, &value)
				}
			case 4, 5:
				r.commit(t, at)
			case 6:
				if next(2) == 0 {
					r.undo(t, at)
				}
			case 7:
				r.sweep(t)
			}
			r.look(t)
		}
		conflicts, commits, went = conflicts+r.conflicts, commits+r.commits, went+r.went
		for len(r.active) > 0 {
			r.undo(t, 0)
		}
		r.sweep(t)
		single(t, r.swept, r.past[len(r.past)-1])
	}
	if min(conflicts, commits, went) < 1000 {
		t.Error("just", conflicts, "conflicts,", commits, "commits,", went, "versions that went")
	}
}

// single: each key has one version, that is not Gone, and these are the keys and the values.
func single(t *testing.T, c gc.Chains, want map[string]string) {
	t.Helper()
	if len(c.Keys) != len(want) || gc.Check(c) != api.OK {
		t.Errorf("%s, not %q", brief(c), want)
	}
	for i, l := range c.Lists {
		value, is := want[c.Keys[i]]
		if len(l) != 1 || l[0].Gone || l[0].Value != value || !is {
			t.Errorf("%s, not %q", brief(c), want)
		}
	}
}

// Behind a Sweep at the greatest stamp, where nothing is uncommitted, each chain has one version, that is not Gone.
func TestP184OneVersionEach(t *testing.T) {
	next := rolled(184)
	all := shortChains()[1:]
	for range 8000 {
		c := rolledChains(next)
		if next(3) == 0 {
			c = of(kept{"a", all[next(len(all))]}, kept{"b", all[next(len(all))]}, kept{"c", all[next(len(all))]})
		}
		greatest := 0
		want := map[string]string{}
		for i, l := range c.Lists {
			if l = slices.Clone(l); l[0].Stamp == 0 {
				l[0].Stamp = most
				if len(l) > 1 {
					l[0].Stamp = min(l[1].Stamp+1, most)
				}
				if len(l) > 1 && l[1].Stamp == most {
					l = l[1:]
				}
			}
			c.Lists[i] = l
			greatest = max(greatest, l[0].Stamp)
			if !l[0].Gone {
				want[c.Keys[i]] = l[0].Value
			}
		}
		for _, horizon := range []int{greatest, greatest + 1, most} {
			left, _, err := gc.Sweep(c, horizon)
			if err != api.OK {
				t.Fatalf("Sweep(%s, %d) = %d", brief(c), horizon, err)
			}
			single(t, left, want)
		}
	}
}

// What is open is no hindrance to the others, and behind its Commit, or its Undo, one version is left, too.
func TestP184BehindTheLast(t *testing.T) {
	c := some()
	for _, txn := range []int{4, 5} {
		var err api.Errno
		if c, err = gc.Commit(c, txn, 10+txn); err != api.OK {
			t.Fatal(err)
		}
	}
	left, went, err := gc.Sweep(c, 15)
	single(t, left, map[string]string{"a": "a9", "b": "b0", "e": "", "f": "f0"})
	if went != 8 || err != api.OK {
		t.Error(went, err)
	}
	c = some()
	for _, txn := range []int{4, 5} {
		c, _ = gc.Undo(c, txn)
	}
	left, went, err = gc.Sweep(c, 9)
	single(t, left, map[string]string{"a": "a9", "b": "b6", "d": "d4", "e": ""})
	if went != 5 || err != api.OK {
		t.Error(went, err)
	}
}
