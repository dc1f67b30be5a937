package plan_test

import (
	"strings"
	"testing"

	"switchback/api"
	"switchback/catalog"
	"switchback/keycode"
	"switchback/plan"
)

var null api.Value

func num(n int) api.Value { return api.Value{Kind: 1, N: n} }

func truth(n int) api.Value { return api.Value{Kind: 2, N: n} }

func text(s string) api.Value { return api.Value{Kind: 3, Text: s} }

func lit(v api.Value) api.Expr { return api.Expr{Value: v} }

func col(place int) api.Expr { return api.Expr{Op: 1, Value: api.Value{N: place}} }

func op(n int, args ...api.Expr) api.Expr { return api.Expr{Op: n, Args: args} }

// The comparisons' ops.
const (
	equal   = 8
	unlike  = 9
	below   = 10
	atMost  = 11
	above   = 12
	atLeast = 13
)

// all is an and of and of ..., as parse makes it.
func all(first api.Expr, l ...api.Expr) api.Expr {
	for _, e := range l {
		first = op(14, first, e)
	}
	return first
}

func in(v api.Value) plan.Bound { return plan.Bound{Value: v, In: true} }

func out(v api.Value) plan.Bound { return plan.Bound{Value: v} }

var open = plan.Bound{Open: true}

func span(index int, low, high plan.Bound) plan.Plan {
	return plan.Plan{Index: index, Low: low, High: high}
}

func empty(index int) plan.Plan { return plan.Plan{Index: index, Empty: true} }

var everything = span(-1, open, open)

// table has the key a (a number), b (a number), c (a truth), d (a text), and indexes on the columns at those places.
func table(columns ...int) catalog.Table {
	t := catalog.Table{Name: "t", Columns: []api.Column{{Name: "a", Kind: 1, NotNull: true}, {Name: "b", Kind: 1}, {Name: "c", Kind: 2}, {Name: "d", Kind: 3}}}
	for i, c := range columns {
		t.Indexes = append(t.Indexes, catalog.Index{Name: string(rune('i' + i)), Column: c})
	}
	return t
}

func chooses(t *testing.T, what string, of catalog.Table, e api.Expr, want plan.Plan) {
	t.Helper()
	if p, err := plan.Choose(of, []api.Expr{e}); p != want || err != api.OK {
		t.Errorf("%s: Choose = %+v, %d, not %+v", what, p, err, want)
	}
}

// Example 1 of the chapter, and the whole's 4.
func TestP132ExampleOne(t *testing.T) {
	e := op(14, op(above, col(0), lit(num(1))), op(atMost, col(0), lit(num(5))))
	chooses(t, "a > 1 and a <= 5", table(), e, span(0, out(num(1)), in(num(5))))
}

func TestP131MeetByHand(t *testing.T) {
	one, two, three := num(1), num(2), num(3)
	junk := plan.Bound{Open: true, Value: text("junk"), In: true}
	for _, x := range []struct {
		what    string
		a, b, p plan.Plan
	}{
		{"open ones", span(1, open, open), span(2, open, open), span(1, open, open)},
		{"of two open ones the first stays", span(1, junk, junk), span(2, open, open), span(1, junk, junk)},
		{"of two open ones the first stays, though the second has more", span(1, open, open), span(2, junk, junk), span(1, open, open)},
		{"open Low of the first", span(0, open, in(three)), span(2, out(one), open), span(0, out(one), in(three))},
		{"open Low of the second", span(-1, in(one), open), span(2, open, out(three)), span(-1, in(one), out(three))},
		{"an open one gives way with all it has", span(3, junk, junk), span(2, in(one), in(three)), span(3, in(one), in(three))},
		{"and so on the other side", span(3, in(one), in(three)), span(2, junk, junk), span(3, in(one), in(three))},
		{"the greater Low", span(4, in(one), open), span(2, out(two), open), span(4, out(two), open)},
		{"the greater Low, first", span(4, in(two), open), span(2, out(one), open), span(4, in(two), open)},
		{"the lesser High", span(4, open, out(three)), span(2, open, in(two)), span(4, open, in(two))},
		{"the lesser High, first", span(4, open, out(two)), span(2, open, in(three)), span(4, open, out(two))},
		{"like Lows, both in", span(4, in(one), open), span(2, in(one), open), span(4, in(one), open)},
		{"like Lows, the first in", span(4, in(one), open), span(2, out(one), open), span(4, out(one), open)},
		{"like Lows, the second in", span(4, out(one), open), span(2, in(one), open), span(4, out(one), open)},
		{"like Lows, none in", span(4, out(one), open), span(2, out(one), open), span(4, out(one), open)},
		{"like Highs, both in", span(4, open, in(one)), span(2, open, in(one)), span(4, open, in(one))},
		{"like Highs, the first in", span(4, open, in(one)), span(2, open, out(one)), span(4, open, out(one))},
		{"like Highs, the second in", span(4, open, out(one)), span(2, open, in(one)), span(4, open, out(one))},
		{"like Highs, none in", span(4, open, out(one)), span(2, open, out(one)), span(4, open, out(one))},
		{"a Low above a High", span(4, in(two), open), span(2, open, in(one)), empty(4)},
		{"a High below a Low", span(4, open, in(one)), span(2, in(two), open), empty(4)},
		{"one that is that way itself", span(4, in(two), in(one)), span(2, open, open), empty(4)},
		{"the second that way", span(4, open, open), span(2, out(two), out(one)), empty(4)},
		{"one value", span(4, in(two), open), span(2, open, in(two)), span(4, in(two), in(two))},
		{"one value, Low not in", span(4, out(two), open), span(2, open, in(two)), empty(4)},
		{"one value, High not in", span(4, in(two), open), span(2, open, out(two)), empty(4)},
		{"one value, none in", span(4, out(two), out(two)), span(2, open, open), empty(4)},
		{"one value, one of two Lows in", span(4, in(two), in(two)), span(2, out(two), open), empty(4)},
		{"two values with none between", span(4, out(one), open), span(2, open, out(two)), span(4, out(one), out(two))},
		{"the first Empty", empty(4), span(2, in(one), in(two)), empty(4)},
		{"the second Empty", span(4, in(one), in(two)), empty(2), empty(4)},
		{"both Empty", empty(4), empty(2), empty(4)},
		{"Empty, with bounds", plan.Plan{Index: 4, Low: in(one), High: in(two), Empty: true}, span(2, open, open), empty(4)},
		{"the second Empty, with bounds", span(4, open, open), plan.Plan{Index: 2, Low: in(one), High: in(two), Empty: true}, empty(4)},
		{"texts", span(4, in(text("a")), in(text("b"))), span(2, out(text("")), out(text("ab"))), span(4, in(text("a")), out(text("ab")))},
		{"truths", span(4, in(truth(0)), open), span(2, in(truth(1)), open), span(4, in(truth(1)), open)},
		{"unlike kinds go by Kind", span(4, in(num(9)), open), span(2, in(text("")), open), span(4, in(text("")), open)},
		{"unlike kinds, none between", span(4, in(truth(0)), open), span(2, open, in(num(9))), empty(4)},
		{"NULL as a value", span(4, in(null), open), span(2, open, in(null)), span(4, in(null), in(null))},
		{"Indexes of any number", span(-77, open, open), span(2, open, open), span(-77, open, open)},
	} {
		if p := plan.Meet(x.a, x.b); p != x.p {
			t.Errorf("%s: Meet(%+v, %+v) = %+v, not %+v", x.what, x.a, x.b, p, x.p)
		}
	}
}

// Values that may not be are like each other by their Order, too: which one is told shows.
func TestP131LikeBoundsThatAreUnlikeValues(t *testing.T) {
	a, b := api.Value{Kind: 1, N: 2, Text: "x"}, api.Value{Kind: 1, N: 2, Text: "y"}
	for _, x := range []struct{ a, b, want plan.Bound }{
		{in(a), in(b), in(a)}, {out(a), out(b), out(a)}, {in(a), out(b), out(b)}, {out(a), in(b), out(a)},
	} {
		if p := plan.Meet(span(1, x.a, open), span(2, x.b, open)); p != span(1, x.want, open) {
			t.Errorf("Lows %+v, %+v: Meet = %+v", x.a, x.b, p)
		}
		if p := plan.Meet(span(1, open, x.a), span(2, open, x.b)); p != span(1, open, x.want) {
			t.Errorf("Highs %+v, %+v: Meet = %+v", x.a, x.b, p)
		}
	}
	if p := plan.Meet(span(1, in(a), open), span(2, open, in(b))); p != span(1, in(a), in(b)) {
		t.Errorf("Meet = %+v", p)
	}
}

func TestP131HasByHand(t *testing.T) {
	two := num(2)
	for _, x := range []struct {
		what string
		p    plan.Plan
		v    api.Value
		want bool
	}{
		{"NULL, of open bounds", everything, null, false},
		{"NULL, of bounds that are NULL", span(0, in(null), in(null)), null, false},
		{"NULL that may not be", everything, api.Value{N: 3, Text: "x"}, false},
		{"a number, of open bounds", everything, num(-1 << 63), true},
		{"a text, of open bounds", everything, text("\xff"), true},
		{"below a Low that is in", span(0, in(two), open), num(1), false},
		{"on a Low that is in", span(0, in(two), open), num(2), true},
		{"above a Low that is in", span(0, in(two), open), num(3), true},
		{"below a Low that is not in", span(0, out(two), open), num(1), false},
		{"on a Low that is not in", span(0, out(two), open), num(2), false},
		{"above a Low that is not in", span(0, out(two), open), num(3), true},
		{"below a High that is in", span(0, open, in(two)), num(1), true},
		{"on a High that is in", span(0, open, in(two)), num(2), true},
		{"above a High that is in", span(0, open, in(two)), num(3), false},
		{"below a High that is not in", span(0, open, out(two)), num(1), true},
		{"on a High that is not in", span(0, open, out(two)), num(2), false},
		{"above a High that is not in", span(0, open, out(two)), num(3), false},
		{"on both", span(0, in(two), in(two)), num(2), true},
		{"between both", span(0, out(num(1)), out(num(3))), num(2), true},
		{"on one of two alike", span(0, in(two), out(two)), num(2), false},
		{"of a higher kind, above a Low", span(0, in(two), open), text(""), true},
		{"of a higher kind, below a High", span(0, open, in(two)), truth(0), false},
		{"of a lower kind, above a Low", span(0, in(text("")), open), num(9), false},
		{"of a lower kind, below a High", span(0, open, in(text(""))), truth(1), true},
		{"of an Empty one", empty(0), num(0), false},
		{"of an Empty one with bounds", plan.Plan{Low: in(two), High: in(two), Empty: true}, num(2), false},
		{"of an Empty one that is open", plan.Plan{Low: open, High: open, Empty: true}, num(2), false},
		{"of one that is zero: from NULL to NULL, none in", plan.Plan{}, num(0), false},
		{"what stands in an open one does not matter", span(0, plan.Bound{Open: true, Value: num(9)}, plan.Bound{Open: true, Value: num(1)}), num(5), true},
		{"texts, octet by octet", span(0, out(text("a")), out(text("b"))), text("a\x00"), true},
		{"a text that begins a bound", span(0, in(text("ab")), open), text("a"), false},
		{"false below true", span(0, out(truth(0)), open), truth(1), true},
	} {
		if is := plan.Has(x.p, x.v); is != x.want {
			t.Errorf("%s: Has(%+v, %+v) = %t", x.what, x.p, x.v, is)
		}
	}
}

func TestP133KeysByHand(t *testing.T) {
	for _, x := range []struct {
		what      string
		p         plan.Plan
		low, high string
	}{
		{"open", everything, "\x05", ""},
		{"open, of the key", span(0, open, open), "\x05", ""},
		{"example 1", span(0, out(num(1)), in(num(5))), "\x41\x01\xff", "\x41\x05\xff"},
		{"Low in", span(2, in(num(258)), open), "\x42\x01\x02", ""},
		{"Low not in", span(2, out(num(258)), open), "\x42\x01\x02\xff", ""},
		{"High in", span(2, open, in(num(-1))), "\x05", "\x3f\xff"},
		{"High not in", span(2, open, out(num(-1))), "\x05", "\x3f"},
		{"one value", span(2, in(num(0)), in(num(0))), "\x40", "\x40\xff"},
		{"truths", span(2, in(truth(0)), out(truth(1))), "\x50", "\x51"},
		{"truths, the other way", span(2, out(truth(0)), in(truth(1))), "\x50\xff", "\x51\xff"},
		{"an empty text", span(2, in(text("")), in(text(""))), "\x60\x00", "\x60\x00\xff"},
		{"a text that begins another", span(2, out(text("a")), out(text("ab"))), "\x60a\x00\xff", "\x60ab\x00"},
		{"octets that are marked", span(2, in(text("\x00")), in(text("\x01"))), "\x60\x01\x01\x00", "\x60\x01\x02\x00\xff"},
		{"NULL", span(2, in(null), in(null)), "\x04", "\x04\xff"},
		{"NULL, not in", span(2, out(null), out(null)), "\x04\xff", "\x04"},
		{"one that is zero", plan.Plan{}, "\x04\xff", "\x04"},
		{"a Low above a High", span(2, in(num(2)), in(num(1))), "\x41\x02", "\x41\x01\xff"},
		{"Empty", empty(3), "", "\x00"},
		{"Empty, with bounds", plan.Plan{Low: in(num(1)), High: in(num(2)), Empty: true}, "", "\x00"},
		{"Empty, with bounds that may not be", plan.Plan{Low: in(truth(2)), High: out(api.Value{Kind: 7}), Empty: true}, "", "\x00"},
		{"open, with values that may not be", span(0, plan.Bound{Open: true, Value: truth(2)}, plan.Bound{Open: true, Value: truth(2), In: true}), "\x05", ""},
		{"an Index of any number", span(-77, in(num(1)), open), "\x41\x01", ""},
		{"64 octets", span(1, in(text(strings.Repeat("x", 64))), open), "\x60" + strings.Repeat("x", 64) + "\x00", ""},
	} {
		if low, high, err := plan.Keys(x.p); low != x.low || high != x.high || err != api.OK {
			t.Errorf("%s: Keys(%+v) = %x, %x, %d", x.what, x.p, low, high, err)
		}
	}
}

func TestP133KeysOfValuesThatMayNotBe(t *testing.T) {
	for _, v := range []api.Value{
		{N: 1}, {Text: "x"}, {Kind: 1, Text: "x"}, truth(2), truth(-1), {Kind: 2, Text: "x"},
		{Kind: 3, N: 1}, text(strings.Repeat("x", 65)), {Kind: 4}, {Kind: -1},
	} {
		for _, b := range []plan.Bound{in(v), out(v)} {
			for _, other := range []plan.Bound{open, in(num(1)), out(num(1)), in(v), out(v)} {
				for _, p := range []plan.Plan{span(0, b, other), span(1, other, b), span(-1, b, other)} {
					if low, high, err := plan.Keys(p); low != "" || high != "" || err != api.ErrState {
						t.Errorf("Keys(%+v) = %x, %x, %d", p, low, high, err)
					}
				}
			}
		}
	}
}

// From where to where: of the value itself, of what comes just ahead of it and behind it, and of all that follows them in a key.
func TestP133KeysHoldWhatThePlanHas(t *testing.T) {
	behind := [][]api.Value{nil, {null}, {num(-1 << 63)}, {num(1<<63 - 1)}, {truth(1)}, {text("")}, {text("\xff\xff")}, {text(strings.Repeat("\xff", 64)), text("\xff")}}
	for _, p := range spans(values()) {
		low, high, err := plan.Keys(p)
		if err != api.OK {
			t.Fatalf("Keys(%+v) = %d", p, err)
		}
		for _, v := range values() {
			for _, l := range behind {
				key, _ := keycode.Encode(append([]api.Value{v}, l...))
				within := low <= key && (high == "" || key < high)
				if is := plan.Has(p, v); v != null && within != is || v == null && p.Low.Open && within {
					t.Fatalf("Keys(%+v) = %x, %x; the key %x lies there: %t, and Has = %t", p, low, high, key, within, is)
				}
			}
		}
	}
}

// values are of all kinds, rising.
func values() []api.Value {
	return []api.Value{null, num(-257), num(-1), num(0), num(1), num(2), num(258), truth(0), truth(1), text(""), text("\x00"), text("\x01"), text("a"), text("a\x00"), text("ab")}
}

// spans are all with those values as bounds, open ones and Empty ones, too.
func spans(l []api.Value) []plan.Plan {
	bounds := []plan.Bound{open, {Open: true, Value: text("junk"), In: true}}
	for _, v := range l {
		bounds = append(bounds, in(v), out(v))
	}
	var all []plan.Plan
	for _, low := range bounds {
		for _, high := range bounds {
			all = append(all, span(1, low, high), plan.Plan{Index: 3, Low: low, High: high, Empty: true})
		}
	}
	return all
}
