package gc_test

import (
	"fmt"
	"testing"

	"switchback/api"
	"switchback/gc"
)

// All that 4 wrote is committed at once, and nothing else.
func TestP181Commit(t *testing.T) {
	c := some()
	for _, stamp := range []int{7, 9, 10, most} {
		what := fmt.Sprint("stamp ", stamp)
		next, err := gc.Commit(c, 4, stamp)
		want := with(with(c, "b", was(stamp, 4, "b0"), was(6, 2, "b6")), "f", was(stamp, 4, "f0"))
		tells(t, what, next, err, want)
		again, err := gc.Commit(next, 4, stamp+1)
		tells(t, what+", once more", again, err, want)
		other, err := gc.Commit(next, 5, stamp)
		tells(t, what+", 5, too", other, err, with(want, "d", gone(stamp, 5), was(4, 2, "d4")))
	}
	next, err := gc.Commit(c, 5, 5)
	tells(t, "just one", next, err, with(c, "d", gone(5, 5), was(4, 2, "d4")))
}

// A stamp that is not above one that stands behind what is to be committed, of whichever key: nothing is committed.
func TestP181CommitRefuses(t *testing.T) {
	for _, stamp := range append([]int{0, 1, 5, 6, most + 1}, extremes...) {
		next, err := gc.Commit(some(), 4, stamp)
		refused(t, fmt.Sprint("stamp ", stamp), next, err, api.ErrRange)
	}
	for _, stamp := range []int{0, 4, most + 1} {
		next, err := gc.Commit(some(), 5, stamp)
		refused(t, fmt.Sprint("of 5, stamp ", stamp), next, err, api.ErrRange)
	}
	open := chain{was(0, 4, "v")}
	for at := range 4 {
		l := []kept{{"a", open}, {"b", open}, {"c", open}, {"d", open}}
		l[at].l = append(open[:1:1], was(8, 1, "w"))
		for stamp := 1; stamp <= 10; stamp++ {
			next, err := gc.Commit(of(l...), 4, stamp)
			if stamp <= 8 {
				refused(t, fmt.Sprint("chain ", at, ", stamp ", stamp), next, err, api.ErrRange)
				continue
			}
			want := []kept{{"a", chain{was(stamp, 4, "v")}}, {"b", chain{was(stamp, 4, "v")}}, {"c", chain{was(stamp, 4, "v")}}, {"d", chain{was(stamp, 4, "v")}}}
			want[at].l = append(want[at].l, was(8, 1, "w"))
			tells(t, fmt.Sprint("chain ", at, ", stamp ", stamp), next, err, of(want...))
		}
	}
	next, err := gc.Commit(of(kept{"a", chain{was(0, 4, "v"), was(most, 1, "w")}}), 4, most)
	refused(t, "behind the greatest", next, err, api.ErrRange)
}

// Who wrote nothing is refused nothing, whatever the stamp is; what others wrote stays open.
func TestP181CommitOfNothing(t *testing.T) {
	for _, stamp := range append([]int{0, 1, 5, 100, most, most + 1}, extremes...) {
		for _, txn := range append([]int{0, 1, 2, 3, 9, most, most + 1}, extremes...) {
			for _, c := range []gc.Chains{{}, {Keys: []string{}, Lists: []chain{}}, some(), of(kept{"a", chain{was(0, 7, "v")}}), many(20)} {
				next, err := gc.Commit(c, txn, stamp)
				tells(t, fmt.Sprint("txn ", txn, ", stamp ", stamp), next, err, c)
			}
		}
	}
}

func TestP181CommitOfMany(t *testing.T) {
	c, want := many(2048), many(2048)
	for i := range c.Lists {
		c.Lists[i] = append(chain{was(0, 2+i%3, "w")}, c.Lists[i]...)
		want.Lists[i] = append(chain{was(0, 2+i%3, "w")}, want.Lists[i]...)
		if i%3 == 1 {
			want.Lists[i][0].Stamp = 2
		}
	}
	next, err := gc.Commit(c, 3, 2)
	tells(t, "a third", next, err, want)
	next, err = gc.Commit(c, 3, 1)
	refused(t, "a third", next, err, api.ErrRange)
}

func TestP181Undo(t *testing.T) {
	c := some()
	next, err := gc.Undo(c, 4)
	want := without(with(c, "b", was(6, 2, "b6")), "f")
	tells(t, "4", next, err, want)
	again, err := gc.Undo(next, 4)
	tells(t, "4 once more", again, err, want)
	next, err = gc.Undo(next, 5)
	tells(t, "5, too", next, err, with(want, "d", was(4, 2, "d4")))
	next, err = gc.Undo(c, 5)
	tells(t, "5", next, err, with(c, "d", was(4, 2, "d4")))
	for _, txn := range append([]int{0, 1, 2, 3, 6, most, most + 1}, extremes...) {
		for _, c := range []gc.Chains{{}, {Keys: []string{}, Lists: []chain{}}, some(), many(20)} {
			next, err = gc.Undo(c, txn)
			tells(t, fmt.Sprint("txn ", txn), next, err, c)
		}
	}
}

// Chains of which nothing is left go, at all places.
func TestP181UndoTakesEmptyChains(t *testing.T) {
	for which := range 1 << 4 {
		var c, want []kept
		for i := range 4 {
			k := kept{string(rune('a' + i)), chain{was(3, 4, "v")}}
			if which>>i&1 == 1 {
				k.l = chain{was(0, 4, "v")}
				if i%2 == 0 {
					k.l = chain{gone(0, 4)}
				}
			} else {
				want = append(want, k)
			}
			c = append(c, k)
		}
		next, err := gc.Undo(of(c...), 4)
		tells(t, fmt.Sprintf("%04b", which), next, err, of(want...))
		next, err = gc.Undo(of(c...), 5)
		tells(t, fmt.Sprintf("%04b, another one's", which), next, err, of(c...))
	}
	c := many(2048)
	for i := range c.Lists {
		c.Lists[i] = chain{was(0, 9, "v")}
	}
	next, err := gc.Undo(c, 9)
	tells(t, "2048", next, err, gc.Chains{})
}

// What was put and undone has left nothing; what was committed stays.
func TestP181UndoOfPut(t *testing.T) {
	c := some()
	for _, key := range []string{"", "a", "aa", "c", "e", "g"} {
		next, err := gc.Put(c, key, 9, 8, false, "new")
		if err != api.OK {
			t.Fatal(key, err)
		}
		next, err = gc.Put(next, "z", 9, 8, true, "")
		if err != api.OK {
			t.Fatal(key, err)
		}
		back, err := gc.Undo(next, 8)
		tells(t, fmt.Sprintf("Undo(%q)", key), back, err, c)
		done, err := gc.Commit(next, 8, 10)
		if err != api.OK {
			t.Fatal(key, err)
		}
		back, err = gc.Undo(done, 8)
		tells(t, fmt.Sprintf("Undo(%q) of what is committed", key), back, err, done)
	}
}
