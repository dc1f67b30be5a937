// Package value is layer 1: SQL's values, three truths, and numbers that are
// checked.
package value

import (
	"cmp"

	"switchback/api"
)

// The Kinds of an api.Value.
const (
	kindNull = iota
	kindNumber
	kindTruth
	kindText
)

// Check tells whether v may be.
func Check(v api.Value) api.Errno {
	if !mayBe(v) {
		return api.ErrState
	}
	return api.OK
}

func mayBe(v api.Value) bool {
	switch v.Kind {
	case kindNull:
		return v.N == 0 && v.Text == ""
	case kindNumber:
		return v.Text == ""
	case kindTruth:
		return (v.N == 0 || v.N == 1) && v.Text == ""
	case kindText:
		return v.N == 0 && len(v.Text) <= api.MaxText
	}
	return false
}

// Order tells which of any two values comes first: -1 a, 1 b, 0 neither.
func Order(a api.Value, b api.Value) int {
	if a.Kind != b.Kind {
		return cmp.Compare(a.Kind, b.Kind)
	}
	switch a.Kind {
	case kindNumber, kindTruth:
		return cmp.Compare(a.N, b.N)
	case kindText:
		return cmp.Compare(a.Text, b.Text)
	}
	return 0
}

// Compare answers the Order of two values of one kind, and whether it is
// known: beside NULL it is not.
func Compare(a api.Value, b api.Value) (int, bool, api.Errno) {
	// NULL fits every kind and has the lowest Kind itself, so the higher one
	// of the two is what both have to fit.
	if !fit(max(a.Kind, b.Kind), a, b) {
		return 0, false, api.ErrType
	}
	if anyNull(a, b) {
		return 0, false, api.OK
	}
	return Order(a, b), true, api.OK
}

func fit(kind int, l ...api.Value) bool {
	for _, v := range l {
		if !mayBe(v) || v.Kind != kindNull && v.Kind != kind {
			return false
		}
	}
	return true
}

func anyNull(l ...api.Value) bool {
	for _, v := range l {
		if v.Kind == kindNull {
			return true
		}
	}
	return false
}

func null() api.Value {
	return api.Value{}
}

func number(n int) api.Value {
	return api.Value{Kind: kindNumber, N: n}
}

func truth(is bool) api.Value {
	v := api.Value{Kind: kindTruth}
	if is {
		v.N = 1
	}
	return v
}
