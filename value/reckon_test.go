package value_test

import (
	"strings"
	"testing"

	"switchback/api"
	"switchback/value"
)

func TestP12ReckonRefusesOpsThatAreNone(t *testing.T) {
	for _, op := range someOps() {
		if op >= 4 && op <= 13 {
			continue
		}
		pairs(func(a, b api.Value) {
			if v, e := value.Reckon(op, a, b); v != null || e != api.ErrArg {
				t.Errorf("Reckon(%d, %v, %v) = %v, %d", op, a, b, v, e)
			}
		})
	}
}

func TestP12ReckonNumbers(t *testing.T) {
	for _, x := range []struct {
		op, a, b int
		want     api.Value
		err      api.Errno
	}{
		{4, 2, 3, num(5), api.OK},
		{4, greatest, 0, num(greatest), api.OK},
		{4, greatest, least, num(-1), api.OK},
		{4, greatest, 1, null, api.ErrOver},
		{4, 1, greatest, null, api.ErrOver},
		{4, least, -1, null, api.ErrOver},
		{4, least, least, null, api.ErrOver},
		{5, 2, 3, num(-1), api.OK},
		{5, -1, least, num(greatest), api.OK},
		{5, least, least, num(0), api.OK},
		{5, 0, least, null, api.ErrOver},
		{5, least, 1, null, api.ErrOver},
		{5, greatest, -1, null, api.ErrOver},
		{6, -2, 3, num(-6), api.OK},
		{6, 0, least, num(0), api.OK},
		{6, least, 0, num(0), api.OK},
		{6, least, 1, num(least), api.OK},
		{6, greatest, -1, num(-greatest), api.OK},
		{6, -1 << 62, 2, num(least), api.OK},
		{6, 1 << 62, 2, null, api.ErrOver},
		{6, 1 << 32, 1 << 32, null, api.ErrOver},
		{6, least, -1, null, api.ErrOver},
		{6, -1, least, null, api.ErrOver},
		{6, 3037000500, 3037000500, null, api.ErrOver},
		{7, 7, 2, num(3), api.OK},
		{7, -7, 2, num(-3), api.OK},
		{7, 7, -2, num(-3), api.OK},
		{7, -7, -2, num(3), api.OK},
		{7, 1, 2, num(0), api.OK},
		{7, -1, 2, num(0), api.OK},
		{7, least, 1, num(least), api.OK},
		{7, -1, least, num(0), api.OK},
		{7, greatest, -1, num(-greatest), api.OK},
		{7, least, -1, null, api.ErrOver},
		{7, 1, 0, null, api.ErrZero},
		{7, 0, 0, null, api.ErrZero},
		{7, least, 0, null, api.ErrZero},
	} {
		v, e := value.Reckon(x.op, num(x.a), num(x.b))
		if v != x.want || e != x.err {
			t.Errorf("Reckon(%d, %d, %d) = %v, %d", x.op, x.a, x.b, v, e)
		}
	}
}

func TestP12ReckonNumbersOfOtherKinds(t *testing.T) {
	for op := 4; op <= 7; op++ {
		pairs(func(a, b api.Value) {
			fit := (a == null || mayBe(a) && a.Kind == 1) && (b == null || mayBe(b) && b.Kind == 1)
			v, e := value.Reckon(op, a, b)
			switch {
			case !fit:
				if v != null || e != api.ErrType {
					t.Errorf("Reckon(%d, %v, %v) = %v, %d", op, a, b, v, e)
				}
			case a == null || b == null: // even where the other one is 0
				if v != null || e != api.OK {
					t.Errorf("Reckon(%d, %v, %v) = %v, %d", op, a, b, v, e)
				}
			}
		})
	}
}

func TestP12ReckonTruths(t *testing.T) {
	holds := func(op, order int) bool {
		return []bool{order == 0, order != 0, order < 0, order <= 0, order > 0, order >= 0}[op-8]
	}
	for op := 8; op <= 13; op++ {
		pairs(func(a, b api.Value) {
			order, known, err := value.Compare(a, b)
			want := null
			if known {
				want = is(holds(op, order))
			}
			if v, e := value.Reckon(op, a, b); v != want || e != err {
				t.Errorf("Reckon(%d, %v, %v) = %v, %d, not %v, %d", op, a, b, v, e, want, err)
			}
		})
	}
}

func TestP12ReckonTruthsOneByOne(t *testing.T) {
	for _, x := range []struct {
		a, b api.Value
		want [6]api.Value // of =, <>, <, <=, >, >=
		err  api.Errno
	}{
		{num(1), num(2), [6]api.Value{no, yes, yes, yes, no, no}, api.OK},
		{num(2), num(2), [6]api.Value{yes, no, no, yes, no, yes}, api.OK},
		{num(greatest), num(least), [6]api.Value{no, yes, no, no, yes, yes}, api.OK},
		{no, yes, [6]api.Value{no, yes, yes, yes, no, no}, api.OK},
		{text("a"), text("B"), [6]api.Value{no, yes, no, no, yes, yes}, api.OK},
		{text(strings.Repeat("a", 64)), text(strings.Repeat("a", 64)), [6]api.Value{yes, no, no, yes, no, yes}, api.OK},
		{null, null, [6]api.Value{}, api.OK},
		{null, text("a"), [6]api.Value{}, api.OK},
		{no, null, [6]api.Value{}, api.OK},
		{no, num(0), [6]api.Value{}, api.ErrType},
		{text("1"), num(1), [6]api.Value{}, api.ErrType},
		{null, api.Value{Kind: 2, N: 2}, [6]api.Value{}, api.ErrType},
		{text(strings.Repeat("a", 65)), null, [6]api.Value{}, api.ErrType},
	} {
		for i, want := range x.want {
			if v, e := value.Reckon(8+i, x.a, x.b); v != want || e != x.err {
				t.Errorf("Reckon(%d, %v, %v) = %v, %d", 8+i, x.a, x.b, v, e)
			}
		}
	}
}

func TestP12Neg(t *testing.T) {
	for _, a := range all() {
		want, err := num(-a.N), api.OK
		switch {
		case a == null:
			want = null
		case a.Kind != 1 || !mayBe(a):
			want, err = null, api.ErrType
		case a.N == least:
			want, err = null, api.ErrOver
		}
		if v, e := value.Neg(a); v != want || e != err {
			t.Errorf("Neg(%v) = %v, %d", a, v, e)
		}
	}
}

func TestP12NegOneByOne(t *testing.T) {
	for _, x := range []struct {
		a, want api.Value
		err     api.Errno
	}{
		{num(0), num(0), api.OK},
		{num(5), num(-5), api.OK},
		{num(-5), num(5), api.OK},
		{num(greatest), num(-greatest), api.OK},
		{num(-greatest), num(greatest), api.OK},
		{num(least), null, api.ErrOver},
		{null, null, api.OK},
		{yes, null, api.ErrType},
		{text("5"), null, api.ErrType},
		{api.Value{Kind: 1, N: 5, Text: "5"}, null, api.ErrType},
		{api.Value{N: 1}, null, api.ErrType},
	} {
		if v, e := value.Neg(x.a); v != x.want || e != x.err {
			t.Errorf("Neg(%v) = %v, %d", x.a, v, e)
		}
	}
}

// What is reckoned is what numbers of any size make of it, and refused just where that has no 64 bits.
func TestP15WhatIsReckonedIsExact(t *testing.T) {
	hold := func(op, a, b int) {
		n, err := byBig(op, a, b)
		want := num(n)
		if err != api.OK {
			want = null
		}
		if v, e := value.Reckon(op, num(a), num(b)); v != want || e != err {
			t.Errorf("Reckon(%d, %d, %d) = %v, %d, not %v, %d", op, a, b, v, e, want, err)
		}
	}
	for _, a := range edgeNumbers() {
		for _, b := range edgeNumbers() {
			for op := 4; op <= 7; op++ {
				hold(op, a, b)
			}
		}
		n, err := byBig(5, 0, a)
		if v, e := value.Neg(num(a)); e != err || err == api.OK && v != num(n) {
			t.Errorf("Neg(%d) = %v, %d", a, v, e)
		}
	}
	seed := uint64(1)
	next := func() int {
		seed = seed*6364136223846793005 + 1442695040888963407
		return int(seed) >> (seed >> 58) // of all lengths
	}
	for range 200000 {
		a, b := next(), next()
		for op := 4; op <= 7; op++ {
			hold(op, a, b)
		}
	}
}
