package value_test

import (
	"testing"

	"switchback/api"
	"switchback/value"
)

func TestP12Truths(t *testing.T) {
	for _, x := range []struct {
		a, b, and, or api.Value
	}{
		{no, no, no, no},
		{no, null, no, null},
		{no, yes, no, yes},
		{null, no, no, null},
		{null, null, null, null},
		{null, yes, null, yes},
		{yes, no, no, yes},
		{yes, null, null, yes},
		{yes, yes, yes, yes},
	} {
		if v, e := value.And(x.a, x.b); v != x.and || e != api.OK {
			t.Errorf("And(%v, %v) = %v, %d", x.a, x.b, v, e)
		}
		if v, e := value.Or(x.a, x.b); v != x.or || e != api.OK {
			t.Errorf("Or(%v, %v) = %v, %d", x.a, x.b, v, e)
		}
	}
	for _, x := range [][2]api.Value{{no, yes}, {yes, no}, {null, null}} {
		if v, e := value.Not(x[0]); v != x[1] || e != api.OK {
			t.Errorf("Not(%v) = %v, %d", x[0], v, e)
		}
	}
}

// fitsTruth: one of the three truths.
func fitsTruth(v api.Value) bool { return v == null || v == no || v == yes }

func TestP12TruthsOfOtherKinds(t *testing.T) {
	pairs(func(a, b api.Value) {
		if fitsTruth(a) && fitsTruth(b) {
			return
		}
		if v, e := value.And(a, b); v != null || e != api.ErrType {
			t.Errorf("And(%v, %v) = %v, %d", a, b, v, e)
		}
		if v, e := value.Or(a, b); v != null || e != api.ErrType {
			t.Errorf("Or(%v, %v) = %v, %d", a, b, v, e)
		}
	})
	for _, a := range all() {
		if v, e := value.Not(a); !fitsTruth(a) && (v != null || e != api.ErrType) {
			t.Errorf("Not(%v) = %v, %d", a, v, e)
		}
	}
}

func TestP14TheOrderOfTwoDoesNotMatter(t *testing.T) {
	pairs(func(a, b api.Value) {
		v, e := value.And(a, b)
		if w, f := value.And(b, a); v != w || e != f {
			t.Errorf("And(%v, %v) = %v, %d, the other way round %v, %d", a, b, v, e, w, f)
		}
		v, e = value.Or(a, b)
		if w, f := value.Or(b, a); v != w || e != f {
			t.Errorf("Or(%v, %v) = %v, %d, the other way round %v, %d", a, b, v, e, w, f)
		}
	})
}

// Not of And is Or of Nots, and Not of Or is And of Nots.
func TestP14NotTurnsTheOneIntoTheOther(t *testing.T) {
	not := func(v api.Value) api.Value {
		w, e := value.Not(v)
		if e != api.OK {
			t.Errorf("Not(%v): %d", v, e)
		}
		return w
	}
	for _, a := range []api.Value{no, null, yes} {
		if not(not(a)) != a {
			t.Errorf("Not of Not of %v is %v", a, not(not(a)))
		}
		for _, b := range []api.Value{no, null, yes} {
			and, _ := value.And(a, b)
			or, _ := value.Or(a, b)
			orOfNots, _ := value.Or(not(a), not(b))
			andOfNots, _ := value.And(not(a), not(b))
			if not(and) != orOfNots || not(or) != andOfNots {
				t.Errorf("of %v and %v: Not of And %v, Or of Nots %v; Not of Or %v, And of Nots %v", a, b, not(and), orOfNots, not(or), andOfNots)
			}
		}
	}
}
