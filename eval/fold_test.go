package eval_test

import (
	"fmt"
	"math/big"
	"slices"
	"testing"

	"switchback/api"
	"switchback/eval"
	"switchback/value"
)

func folds(t *testing.T, what string, o int, l []api.Value, want api.Value) {
	t.Helper()
	if v, err := eval.Fold(o, l); v != want || err != api.OK {
		t.Errorf("%s: Fold(%d, %v) = %v, %d, not %v", what, o, l, v, err, want)
	}
}

func refusesFold(t *testing.T, what string, o int, l []api.Value, want api.Errno) {
	t.Helper()
	if v, err := eval.Fold(o, l); v != null || err != want {
		t.Errorf("%s: Fold(%d, %v) = %v, %d, not %d", what, o, l, v, err, want)
	}
}

func TestP82OpsThatAreNone(t *testing.T) {
	none := []int{least, least + countAll, -1, -18, 23, 24, 1 << 32, 1<<32 + countAll, greatest}
	for o := 0; o <= isNotNull; o++ {
		none = append(none, o)
	}
	for _, o := range none {
		for _, l := range [][]api.Value{nil, {}, {null}, {num(1)}, {text("a"), num(1)}, {num(greatest), num(1)}, wrong()} {
			refusesFold(t, "no aggregate", o, l, api.ErrArg)
		}
	}
}

func TestP82OfNoValues(t *testing.T) {
	for _, l := range [][]api.Value{nil, {}} {
		folds(t, "none", countAll, l, num(0))
		folds(t, "none", count, l, num(0))
		folds(t, "none", sum, l, null)
		folds(t, "none", minOf, l, null)
		folds(t, "none", maxOf, l, null)
	}
}

func TestP82OfNullsAlone(t *testing.T) {
	for _, n := range []int{1, 2, 17, 4096} {
		l := make([]api.Value, n)
		folds(t, "NULLs", countAll, l, num(n))
		folds(t, "NULLs", count, l, num(0))
		folds(t, "NULLs", sum, l, null)
		folds(t, "NULLs", minOf, l, null)
		folds(t, "NULLs", maxOf, l, null)
	}
	// By its Kind a value is NULL; what is answered is no more than that.
	odd := []api.Value{{N: 1}, {Text: "a"}, {N: least, Text: "b"}}
	folds(t, "NULLs that may not be", countAll, odd, num(3))
	folds(t, "NULLs that may not be", count, odd, num(0))
	folds(t, "NULLs that may not be", sum, odd, null)
	folds(t, "NULLs that may not be", minOf, odd, null)
	folds(t, "NULLs that may not be", maxOf, odd, null)
	folds(t, "a NULL that may not be, beside a number", sum, []api.Value{{N: 1}, num(5)}, num(5))
}

func TestP82OneByOne(t *testing.T) {
	for _, x := range []struct {
		l                           []api.Value
		all, known, sum, least, top api.Value
		wrong                       api.Errno
	}{
		{[]api.Value{num(5)}, num(1), num(1), num(5), num(5), num(5), api.OK},
		{[]api.Value{num(5), num(-7), num(3)}, num(3), num(3), num(1), num(-7), num(5), api.OK},
		{[]api.Value{num(3), num(5), num(5), num(3)}, num(4), num(4), num(16), num(3), num(5), api.OK},
		{[]api.Value{null, num(5), null, num(9), null}, num(5), num(2), num(14), num(5), num(9), api.OK},
		{[]api.Value{num(5), null}, num(2), num(1), num(5), num(5), num(5), api.OK},
		{[]api.Value{null, num(-5)}, num(2), num(1), num(-5), num(-5), num(-5), api.OK},
		{[]api.Value{num(0), null, num(0)}, num(3), num(2), num(0), num(0), num(0), api.OK},
		{[]api.Value{num(greatest), num(least)}, num(2), num(2), num(-1), num(least), num(greatest), api.OK},
		{[]api.Value{yes}, num(1), num(1), null, yes, yes, api.ErrType},
		{[]api.Value{yes, null, no}, num(3), num(2), null, no, yes, api.ErrType},
		{[]api.Value{text("b"), text("ab"), text("\xff"), text("")}, num(4), num(4), null, text(""), text("\xff"), api.ErrType},
		{[]api.Value{null, text("")}, num(2), num(1), null, text(""), text(""), api.ErrType},
		{[]api.Value{text("9"), text("10"), null}, num(3), num(2), null, text("10"), text("9"), api.ErrType},
	} {
		folds(t, "one by one", countAll, x.l, x.all)
		folds(t, "one by one", count, x.l, x.known)
		folds(t, "one by one", minOf, x.l, x.least)
		folds(t, "one by one", maxOf, x.l, x.top)
		if x.wrong == api.OK {
			folds(t, "one by one", sum, x.l, x.sum)
		} else {
			refusesFold(t, "one by one", sum, x.l, x.wrong)
		}
	}
}

// Sums go from 0 on, from the left: what comes behind does not bring back what was too great.
func TestP82SumsThatAreTooGreat(t *testing.T) {
	for _, l := range [][]api.Value{
		{num(greatest), num(1)},
		{num(1), num(greatest)},
		{num(least), num(-1)},
		{num(greatest), num(1), num(-1)},
		{num(greatest), null, num(1), null, num(-1)},
		{num(1 << 62), num(1 << 62), num(least)},
		{num(least), num(least), num(greatest), num(greatest)},
		{num(greatest), num(1), text("a")}, // the first error
		{num(greatest), num(1), {Kind: 1, Text: "a"}},
	} {
		refusesFold(t, "too great", sum, l, api.ErrOver)
	}
	folds(t, "just not too great", sum, []api.Value{num(greatest), num(-1), num(1)}, num(greatest))
	folds(t, "just not too great", sum, []api.Value{num(-1), num(greatest), num(1)}, num(greatest))
	folds(t, "just not too low", sum, []api.Value{num(1), num(least), num(-1)}, num(least))
	folds(t, "the least alone", sum, []api.Value{num(least)}, num(least))
	folds(t, "one by one", sum, slices.Repeat([]api.Value{num(1 << 51)}, 4095), num(4095<<51))
	refusesFold(t, "one more", sum, slices.Repeat([]api.Value{num(1 << 51)}, 4096), api.ErrOver)
}

func TestP82ValuesOfTwoKinds(t *testing.T) {
	l := []api.Value{text("a"), num(7), null, yes, num(-7), no, text("")}
	folds(t, "kinds", countAll, l, num(7))
	folds(t, "kinds", count, l, num(6))
	folds(t, "kinds", minOf, l, num(-7)) // by Kind first
	folds(t, "kinds", maxOf, l, text("a"))
	folds(t, "a truth and a number", minOf, []api.Value{no, num(greatest)}, num(greatest))
	folds(t, "a truth and a number", maxOf, []api.Value{no, num(greatest)}, no)
	refusesFold(t, "kinds", sum, l, api.ErrType)
	for _, v := range all() {
		if v.Kind == 0 || v.Kind == 1 && v.Text == "" {
			continue
		}
		for _, l := range [][]api.Value{{v}, {v, null}, {num(1), v}, {v, num(1)}, {num(1), null, v, num(2)}} {
			refusesFold(t, "what is no number", sum, l, api.ErrType)
		}
	}
	refusesFold(t, "a text, then too great", sum, []api.Value{num(greatest), text("a"), num(1)}, api.ErrType)
}

// Of values that are as good the first one counts, if they may not be and so are not one.
func TestP82TheFirstOfLikeOnes(t *testing.T) {
	a, b, c := api.Value{Kind: 1, N: 5, Text: "a"}, api.Value{Kind: 1, N: 5, Text: "b"}, num(5)
	for _, o := range []int{minOf, maxOf} {
		folds(t, "a first", o, []api.Value{null, a, b, c}, a)
		folds(t, "b first", o, []api.Value{b, null, c, a}, b)
		folds(t, "c first", o, []api.Value{c, b, a}, c)
	}
	folds(t, "the least is the second", minOf, []api.Value{num(6), b, a, num(7)}, b)
	folds(t, "the greatest is the second", maxOf, []api.Value{num(4), b, a, num(3)}, b)
	folds(t, "kinds that are none", minOf, []api.Value{null, num(1), {Kind: -1, Text: "x"}, {Kind: -1}}, api.Value{Kind: -1, Text: "x"})
	folds(t, "kinds that are none", maxOf, []api.Value{{Kind: 9, N: 1}, text("z"), {Kind: 9, N: 2}}, api.Value{Kind: 9, N: 1})
}

// foldOf is a second reading of P8.2: sums by numbers of any size.
func foldOf(o int, l []api.Value) (api.Value, api.Errno) {
	best, known, total := null, 0, new(big.Int)
	for _, v := range l {
		if v.Kind == 0 {
			continue
		}
		known++
		switch {
		case o == sum:
			if v.Kind != 1 || v.Text != "" {
				return null, api.ErrType
			}
			if !total.Add(total, big.NewInt(int64(v.N))).IsInt64() {
				return null, api.ErrOver
			}
			best = num(int(total.Int64()))
		case known == 1, o == minOf && value.Order(best, v) > 0, o == maxOf && value.Order(best, v) < 0:
			best = v
		}
	}
	switch {
	case o < countAll || o > maxOf:
		return null, api.ErrArg
	case o == countAll:
		return num(len(l)), api.OK
	case o == count:
		return num(known), api.OK
	}
	return best, api.OK
}

func holdsFold(t *testing.T, o int, l []api.Value, seen map[api.Errno]int) {
	t.Helper()
	want, wrong := foldOf(o, l)
	seen[wrong]++
	if v, err := eval.Fold(o, l); v != want || err != wrong {
		t.Fatalf("Fold(%d, %v) = %v, %d, not %v, %d", o, l, v, err, want, wrong)
	}
}

func TestP82ShortLists(t *testing.T) {
	some := []api.Value{null, {N: 3}, no, yes, num(0), num(1), num(-2), num(least), num(greatest), text(""), text("a"), {Kind: 2, N: 1, Text: "x"}, {Kind: 1, N: 1, Text: "x"}, {Kind: -1}}
	seen := map[api.Errno]int{}
	for o := isNotNull; o <= maxOf+1; o++ {
		for _, a := range some {
			holdsFold(t, o, []api.Value{a}, seen)
			for _, b := range some {
				holdsFold(t, o, []api.Value{a, b}, seen)
				for _, c := range some {
					holdsFold(t, o, []api.Value{a, b, c}, seen)
				}
			}
		}
	}
	if len(seen) != 4 {
		t.Error("told:", seen)
	}
}

func TestP82RolledLists(t *testing.T) {
	next := rolled(8)
	seen := map[api.Errno]int{}
	for range 20000 {
		l := make([]api.Value, next(20))
		kind, mixed := 1+next(3), next(2)
		for i := range l {
			switch {
			case next(4) == 0: // NULL
			case next(60) == 0:
				l[i] = all()[next(len(all()))]
			case kind == 1:
				l[i] = num((next(1<<30)<<33 | next(1<<30)) >> (next(8) * next(8)) * (1 - 2*next(1+mixed)))
			case kind == 2:
				l[i] = is(next(2) == 0)
			default:
				l[i] = text(fmt.Sprint(next(1000)))
			}
		}
		holdsFold(t, countAll+next(5), l, seen)
	}
	for _, err := range []api.Errno{api.OK, api.ErrType, api.ErrOver} {
		if seen[err] < 100 {
			t.Errorf("only %d lists told %d", seen[err], err)
		}
	}
}
