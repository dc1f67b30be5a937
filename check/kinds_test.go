package check_test

import (
	"fmt"
	"testing"

	"switchback/api"
)

// unary tells, by the kind of the one Arg from 0 to 3, the kind of the op; . is a kind that does not fit.
func unary() map[int]string {
	return map[int]string{
		neg: "11..", not: "2.2.", isNull: "2222", isNotNull: "2222",
		count: "1111", sum: "11..", minOf: "0123", maxOf: "0123",
	}
}

// binary tells it by the left Arg's kind and the right one's, four kinds in a row.
func binary() map[int]string {
	numbers := "11.. 11.. .... ...."
	truths := "2.2. .... 2.2. ...."
	alike := "2222 22.. 2.2. 2..2"
	return map[int]string{
		add: numbers, sub: numbers, mul: numbers, div: numbers, and: truths, or: truths,
		equal: alike, unlike: alike, below: alike, atMost: alike, above: alike, atLeast: alike,
	}
}

// ofKind are expressions of a kind, and what they are resolved, in a scope of t.
func ofKind(kind int) map[string]api.Expr {
	return [...]map[string]api.Expr{
		{"null": expr("null")},
		{"7": num(7), "n": at(3), "t.a": at(0), "-null": expr("-null"), "a + 1": op(add, at(0), num(1))},
		{"true": expr("true"), "b": at(1), "not null": expr("not null"), "c is null": op(isNull, at(2)), "null = null": expr("null = null"), "a < 1": op(below, at(0), num(1))},
		{"'x'": expr("'x'"), "c": at(2), "t.c": at(2)},
	}[kind]
}

func TestP71KindsOfOneArg(t *testing.T) {
	for n, kinds := range unary() {
		for kind := range 4 {
			for s, done := range ofKind(kind) {
				what := fmt.Sprint("op ", n, " of ", s)
				if kinds[kind] == '.' {
					refuses(t, what, tables("t"), op(n, expr(s)), true, api.ErrType)
				} else {
					resolves(t, what, tables("t"), op(n, expr(s)), true, op(n, done), int(kinds[kind]-'0'))
				}
			}
		}
	}
	resolves(t, "count(*)", tables("t"), op(countAll), true, op(countAll), 1)
}

func TestP71KindsOfTwoArgs(t *testing.T) {
	for n, kinds := range binary() {
		for left := range 4 {
			for right := range 4 {
				want := kinds[left*5+right]
				for s, a := range ofKind(left) {
					for u, b := range ofKind(right) {
						what := fmt.Sprint("op ", n, " of ", s, " and ", u)
						if want == '.' {
							refuses(t, what, tables("t"), op(n, expr(s), expr(u)), false, api.ErrType)
						} else {
							resolves(t, what, tables("t"), op(n, expr(s), expr(u)), false, op(n, a, b), int(want-'0'))
						}
					}
				}
			}
		}
	}
}

// An aggregate's kind is asked as any other's.
func TestP71KindsOverAggregates(t *testing.T) {
	for s, kind := range map[string]int{
		"count(*) + 1": 1, "count(c) = sum(a)": 2, "min(c) = 'x'": 2, "max(b) and min(b)": 2, "sum(null) + 1": 1,
		"min(null)": 0, "min(null) + 1": 1, "min(null) and true": 2, "-min(a)": 1, "max(c)": 3, "not max(b)": 2, "count(b) is null": 2, "min(c) is not null": 2,
	} {
		_, k, err := resolvedText(s)
		if k != kind || err != api.OK {
			t.Errorf("%s: Expr = %d, %d, not %d", s, k, err, kind)
		}
	}
	for _, s := range []string{"count(c) = 'x'", "min(c) + 1", "max(b) + 1", "not count(*)", "sum(a) and true", "-min(c)", "max(c) = min(a)", "count(*) or null"} {
		refuses(t, s, tables("t"), expr(s), true, api.ErrType)
	}
}
