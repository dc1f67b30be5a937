package eval

import (
	"slices"

	"switchback/api"
	"switchback/value"
)

// The ops of an api.Expr that are made of many values.
const (
	opCountAll = iota + opIsNotNull + 1
	opCount
	opSum
	opMin
	opMax
)

// Fold answers what an aggregate makes of l.
func Fold(op int, l []api.Value) (api.Value, api.Errno) {
	if op < opCountAll || op > opMax {
		return api.Value{}, api.ErrArg
	}
	if op == opCountAll {
		return number(len(l)), api.OK
	}
	l = slices.DeleteFunc(slices.Clone(l), func(v api.Value) bool { return v.Kind == kindNull })
	if op == opCount {
		return number(len(l)), api.OK
	}
	if len(l) == 0 {
		return api.Value{}, api.OK
	}
	switch op {
	case opMin:
		return fresh(slices.MinFunc(l, value.Order)), api.OK
	case opMax:
		return fresh(slices.MaxFunc(l, value.Order)), api.OK
	}
	return total(l)
}

// total adds from the left: a sum on the way that is too great is refused,
// even if what comes behind would bring it back.
func total(l []api.Value) (api.Value, api.Errno) {
	sum := number(0)
	for _, v := range l {
		next, err := value.Reckon(opAdd, sum, v)
		if err != api.OK {
			return api.Value{}, err
		}
		sum = next
	}
	return sum, api.OK
}
