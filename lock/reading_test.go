package lock_test

import (
	"math/bits"
	"slices"
	"testing"

	"switchback/api"
	"switchback/lock"
)

// A line is cut at at most 64 keys, that rise from "" on: what lies from one up to the next is a cell. A set of cells is a number, a bit for each.
type line []string

// cell is that which has the key.
func (w line) cell(key string) int {
	at, is := slices.BinarySearch(w, key)
	if !is {
		at--
	}
	return at
}

// cells are those of a lock whose ends are cuts; none, if it has no key.
func (w line) cells(l lock.Lock) uint64 {
	var set uint64
	for i, key := range w {
		if key >= l.Low && (l.High == "" || key < l.High) {
			set |= 1 << i
		}
	}
	return set
}

// lock is that of the least cell of a set up to its greatest one.
func (w line) lock(txn int, set uint64) lock.Lock {
	l := span(txn, w[bits.TrailingZeros64(set)], "")
	if end := bits.Len64(set); end < len(w) {
		l.High = w[end]
	}
	return l
}

// whole is a set with all between its least and its greatest cell.
func (w line) whole(set uint64) uint64 { return w.cells(w.lock(1, set)) }

// A book reads the chapter once more: the sets of each Txn, in no order.
type book struct {
	line
	sets map[int][]uint64
}

// read answers no book where the state may not be.
func (w line) read(l locks) (book, bool) {
	b := book{w, map[int][]uint64{}}
	var last [3]int
	for _, one := range l {
		set := w.cells(one)
		if one.Txn <= 0 || one.Txn > most || set == 0 {
			return book{}, false
		}
		own := place(one.Txn, set)
		if slices.Compare(last[:], own[:]) >= 0 {
			return book{}, false
		}
		last = own
		b.sets[one.Txn] = append(b.sets[one.Txn], set)
	}
	return b, len(l) <= 512
}

// place is where a set of a Txn's stands among all.
func place(txn int, set uint64) [3]int {
	return [3]int{txn, bits.TrailingZeros64(set), bits.Len64(set)}
}

func (b book) locks() locks {
	sets := map[[3]int]uint64{}
	var places [][3]int
	for txn, l := range b.sets {
		for _, set := range l {
			places = append(places, place(txn, set))
			sets[place(txn, set)] = set
		}
	}
	slices.SortFunc(places, func(p, q [3]int) int { return slices.Compare(p[:], q[:]) })
	l := locks{}
	for _, p := range places {
		l = append(l, b.lock(p[0], sets[p]))
	}
	return l
}

// with is the book whose Txn has these sets.
func (b book) with(txn int, sets []uint64) book {
	next := book{b.line, map[int][]uint64{}}
	for t, l := range b.sets {
		next.sets[t] = l
	}
	next.sets[txn] = sets
	return next
}

func (b book) add(x lock.Lock) (book, api.Errno) {
	set := b.cells(x)
	if x.Txn < 1 || x.Txn > most || set == 0 {
		return book{}, api.ErrArg
	}
	one := set
	var others []uint64
	for _, other := range b.sets[x.Txn] {
		switch {
		case set&^other == 0:
			return b, api.OK
		case other&(set|set<<1|set>>1) != 0:
			one |= other
		default:
			others = append(others, other)
		}
	}
	next := b.with(x.Txn, append(others, one))
	if len(next.locks()) > 512 {
		return book{}, api.ErrFull
	}
	return next, api.OK
}

func (b book) widen(txn, n int) (book, api.Errno) {
	if n <= 0 {
		return book{}, api.ErrRange
	}
	if len(b.sets[txn]) <= n {
		return b, api.OK
	}
	var all uint64
	for _, set := range b.sets[txn] {
		all |= set
	}
	return b.with(txn, []uint64{b.whole(all)}), api.OK
}

func (b book) readers(key string) []int {
	var l []int
	for txn, sets := range b.sets {
		for _, set := range sets {
			if set>>b.cell(key)&1 == 1 && !slices.Contains(l, txn) {
				l = append(l, txn)
			}
		}
	}
	slices.Sort(l)
	return l
}

// An asked is what the calls are given.
type asked struct {
	l    locks
	x    lock.Lock
	key  string
	most int
}

func holds(t *testing.T, what string, a asked, s lock.State, err api.Errno, b book, want api.Errno) {
	t.Helper()
	if want != api.OK {
		refused(t, what+" of "+brief(of(a.l...))+", "+brief(of(a.x)), s, err, want)
		return
	}
	tells(t, what+" of "+brief(of(a.l...))+", "+brief(of(a.x)), s, err, b.locks())
}

// agrees holds all calls against the book. The key and the key right behind it are cuts.
func (w line) agrees(t *testing.T, a asked) {
	t.Helper()
	s := of(a.l...)
	b, may := w.read(a.l)
	if err := lock.Check(s); (err == api.OK) != may || err != api.OK && err != api.ErrState {
		t.Fatalf("Check(%s) = %d", brief(s), err)
	}
	want := [4]api.Errno{api.ErrState, api.ErrState, api.ErrState, api.ErrState}
	var after [4]book
	if may {
		after[0], want[0] = b.add(a.x)
		after[1], want[1] = b.add(span(a.x.Txn, a.key, a.key+"\x00"))
		after[2], want[2] = b.with(a.x.Txn, nil), api.OK
		after[3], want[3] = b.widen(a.x.Txn, a.most)
	}
	next, err := lock.Add(s, a.x)
	holds(t, "Add", a, next, err, after[0], want[0])
	next, err = lock.Read(s, a.x.Txn, a.key)
	holds(t, "Read", a, next, err, after[1], want[1])
	next, err = lock.Drop(s, a.x.Txn)
	holds(t, "Drop", a, next, err, after[2], want[2])
	next, err = lock.Widen(s, a.x.Txn, a.most)
	holds(t, "Widen", a, next, err, after[3], want[3])
	txns, err := lock.Readers(s, a.key)
	if may && (err != api.OK || !slices.Equal(txns, b.readers(a.key))) || !may && (err != api.ErrState || len(txns) > 0) {
		t.Fatalf("Readers(%s, %q) = %d, %d", brief(s), a.key, txns, err)
	}
	if t.Failed() {
		t.FailNow()
	}
}

// short are lines whose cuts all lie close together, or far apart.
var short = []line{
	{"", "\x00", "\x00\x00"},
	{"", "a", "a\x00"},
	{"", "\xff", "\xff\x00"},
}

// All lists of at most three locks between few cuts, most of which may not be.
func TestP161AllShortLists(t *testing.T) {
	for _, w := range short {
		var all locks
		for txn := range 3 {
			for _, low := range w {
				for _, high := range w {
					all = append(all, span(txn, low, high))
				}
			}
		}
		x := span(1, w[1], w[2])
		ask := func(l ...lock.Lock) { w.agrees(t, asked{l, x, w[1], 1}) }
		ask()
		for _, l := range all {
			ask(l)
			for _, m := range all {
				ask(l, m)
				for _, n := range all {
					ask(l, m, n)
				}
			}
		}
	}
}

// spans are all locks of txn between the cuts, in order.
func (w line) spans(txn int) locks {
	var l locks
	for low := range w {
		for high := low + 1; high <= len(w); high++ {
			l = append(l, w.lock(txn, 1<<high-1<<low))
		}
	}
	return l
}

// keys are those of the cuts whose next key is a cut, too.
func (w line) keys() []string {
	var l []string
	for _, key := range w {
		if slices.Contains(w, key+"\x00") {
			l = append(l, key)
		}
	}
	return l
}

// All sets of locks of one Txn between four cuts, with each lock, each key and each most, beside others' locks and alone.
func TestP161AllSets(t *testing.T) {
	for _, w := range []line{{"", "\x00", "b", "b\x00"}, {"", "\x00", "\x00\x00", "\xff"}} {
		all, keys := w.spans(2), w.keys()
		for set := range 1 << len(all) {
			var own locks
			for i, l := range all {
				if set>>i&1 == 1 {
					own = append(own, l)
				}
			}
			beside := joined(w.spans(1)[set%10:], own, w.spans(3)[:set%7])
			for i, x := range all {
				w.agrees(t, asked{own, x, keys[i%2], i})
				w.agrees(t, asked{beside, x, keys[i%2], 1 + i%4})
			}
			w.agrees(t, asked{beside, w.spans(4)[set%10], keys[0], 1})
		}
	}
}
