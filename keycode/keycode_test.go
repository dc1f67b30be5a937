package keycode_test

import (
	"math"
	"slices"
	"strings"
	"testing"
	"unsafe"

	"switchback/api"
	"switchback/keycode"
	"switchback/value"
)

const (
	least    = math.MinInt64
	greatest = math.MaxInt64
)

var (
	null = api.Value{}
	no   = api.Value{Kind: 2}
	yes  = api.Value{Kind: 2, N: 1}
)

func num(n int) api.Value { return api.Value{Kind: 1, N: n} }

func text(s string) api.Value { return api.Value{Kind: 3, Text: s} }

func list(l ...api.Value) []api.Value { return l }

func times(v api.Value, n int) []api.Value { return slices.Repeat(list(v), n) }

// risingNumbers are those beside which a number needs an octet more.
func risingNumbers() []int {
	l := []int{0, 1, 2, 0x7f, 0x80, 258, greatest - 1, greatest}
	for k := 1; k < 8; k++ {
		edge := 1 << (8 * k)
		l = append(l, edge-1, edge, edge+1, edge/2-1, edge/2, edge/2+1)
	}
	for _, n := range slices.Clone(l) {
		l = append(l, -n-1)
	}
	slices.Sort(l)
	return slices.Compact(l)
}

// texts have octets that are written as two, and such as ends are written.
func texts() []string {
	l := []string{""}
	for _, a := range []string{"\x00", "\x01", "\x02", "\x03", "\x04", "A", "a", "\x7f", "\x80", "\xff"} {
		l = append(l, a)
		for _, b := range []string{"\x00", "\x01", "\x02", "a", "\xff"} {
			l = append(l, a+b, a+b+"\x00", a+b+"\x01")
		}
	}
	for _, s := range []string{"\x00", "\x01", "a", "\xff", "\u00e9"} {
		l = append(l, strings.Repeat(s, 64/len(s)), strings.Repeat(s, 63/len(s)))
	}
	slices.Sort(l)
	return slices.Compact(l)
}

// rising are values that may be, each above the one ahead of it.
func rising() []api.Value {
	l := list(null)
	for _, n := range risingNumbers() {
		l = append(l, num(n))
	}
	l = append(l, no, yes)
	for _, s := range texts() {
		l = append(l, text(s))
	}
	return l
}

// wrong are values that may not be.
func wrong() []api.Value {
	return []api.Value{
		{Kind: -1}, {Kind: 4}, {Kind: least}, {Kind: greatest}, {Kind: 1 << 32}, {Kind: -1, Text: "a"},
		{N: 1}, {N: -1}, {Text: "a"}, {Text: "\x00"},
		{Kind: 1, Text: "a"}, {Kind: 1, N: 5, Text: "5"},
		{Kind: 2, N: 2}, {Kind: 2, N: -1}, {Kind: 2, N: 256}, {Kind: 2, N: least}, {Kind: 2, N: greatest}, {Kind: 2, Text: "a"},
		{Kind: 3, N: 1}, {Kind: 3, N: -1, Text: "a"},
		text(strings.Repeat("a", 65)), text(strings.Repeat("\x00", 65)), text(strings.Repeat("a", 1000)), text(strings.Repeat("\u00e9", 33)),
	}
}

// lists of values that may be: none, one, two of every two, and longer ones.
func lists() [][]api.Value {
	l := [][]api.Value{{}}
	for _, a := range rising() {
		l = append(l, list(a), list(a, a, a), times(a, 63), times(a, 64))
		for _, b := range list(null, num(least), num(-257), num(-1), num(0), num(256), no, yes, text(""), text("\x00"), text("\x01"), text("a\x00b")) {
			l = append(l, list(a, b), list(b, a), list(b, a, b))
		}
	}
	return l
}

// wrongLists have a value that may not be, among some that may.
func wrongLists() [][]api.Value {
	var l [][]api.Value
	for _, w := range wrong() {
		l = append(l, list(w), list(w, null), list(num(1), w), list(no, w, text("a")), list(w, w), append(times(num(7), 63), w))
	}
	return l
}

func mustEncode(t *testing.T, l []api.Value) string {
	t.Helper()
	s, e := keycode.Encode(l)
	if e != api.OK {
		t.Fatalf("Encode(%#v): %d", l, e)
	}
	return s
}

func TestP22LessOneByOne(t *testing.T) {
	for _, x := range []struct {
		a, b []api.Value
		want bool
	}{
		{nil, nil, false},
		{nil, list(), false},
		{nil, list(null), true},
		{list(null), nil, false},
		{list(num(1)), list(num(1)), false},
		{list(num(1)), list(num(2)), true},
		{list(num(2)), list(num(1)), false},
		{list(num(-1)), list(num(0)), true},
		{list(num(1)), list(num(1), null), true},
		{list(num(1), null), list(num(1)), false},
		{list(num(1), text("z")), list(num(2)), true},
		{list(num(2)), list(num(1), text("z")), false},
		{list(num(1), no), list(num(1), yes), true},
		{list(null, yes, no), list(null, yes, text("")), true},
		{list(text("a")), list(text("ab")), true},
		{list(text("ab")), list(text("b")), true},
		{list(text("a"), text("z")), list(text("ab")), true},
		{list(num(greatest)), list(no), true},
		{times(null, 64), times(null, 65), true},
		{times(null, 100), times(null, 1000), true},
		{times(null, 1000), times(null, 100), false},
	} {
		if is := keycode.Less(x.a, x.b); is != x.want {
			t.Errorf("Less(%#v, %#v) = %t", x.a, x.b, is)
		}
	}
}

// lessByWords: what the chapter says, word by word.
func lessByWords(a, b []api.Value) bool {
	i := 0
	for i < len(a) && i < len(b) && value.Order(a[i], b[i]) == 0 {
		i++
	}
	if i == len(a) || i == len(b) {
		return i == len(a) && i < len(b)
	}
	return value.Order(a[i], b[i]) == -1
}

func TestP22LessOfAnyValues(t *testing.T) {
	l := append(wrongLists(), lists()[:200]...)
	for _, a := range l {
		for _, b := range l {
			if is := keycode.Less(a, b); is != lessByWords(a, b) {
				t.Fatalf("Less(%#v, %#v) = %t", a, b, is)
			}
		}
	}
}

func TestP22AfterOneByOne(t *testing.T) {
	for s, want := range map[string]string{"": "\x00", "\x00": "\x00\x00", "a": "a\x00", "a\xff": "a\xff\x00", "\x42\x01\x02": "\x42\x01\x02\x00"} {
		if after := keycode.After(s); after != want {
			t.Errorf("After(%x) = %x", s, after)
		}
	}
	long := strings.Repeat("\xff", 100000)
	if keycode.After(long) != long+"\x00" {
		t.Error("After of a long text")
	}
}

// shortOctets are all of at most most octets of some.
func shortOctets(most int, some string) []string {
	l := []string{""}
	last := l
	for range most {
		var longer []string
		for _, s := range last {
			for i := range len(some) {
				longer = append(longer, s+some[i:i+1])
			}
		}
		l, last = append(l, longer...), longer
	}
	return l
}

func TestP22AfterIsTheLeastAbove(t *testing.T) {
	for _, s := range shortOctets(3, "\x00\x01a\xff") {
		after := keycode.After(s)
		for _, other := range shortOctets(5, "\x00\x01a\xff") {
			if (other > s) != (other >= after) {
				t.Fatalf("After(%x) = %x, but %x", s, after, other)
			}
		}
	}
}

func TestP24TheOrderOfOctetsIsThatOfLists(t *testing.T) {
	l := lists()
	keys := make([]string, len(l))
	for i := range l {
		keys[i] = mustEncode(t, l[i])
	}
	for i, a := range l {
		for j, b := range l {
			if keycode.Less(a, b) != (keys[i] < keys[j]) {
				t.Fatalf("Less(%#v, %#v) is %t, of %x, %x", a, b, keycode.Less(a, b), keys[i], keys[j])
			}
		}
	}
}

func TestP24OneValueAfterAnother(t *testing.T) {
	l := rising()
	for i := range len(l) - 1 {
		a, b := mustEncode(t, l[i:i+1]), mustEncode(t, l[i+1:i+2])
		if a >= b || strings.HasPrefix(b, a) {
			t.Errorf("of %#v, %#v: %x, %x", l[i], l[i+1], a, b)
		}
	}
}

// within tells whether a text's octets lie in memory where another's do.
func within(part, whole string) bool {
	if part == "" || whole == "" {
		return false
	}
	a, b := uintptr(unsafe.Pointer(unsafe.StringData(part))), uintptr(unsafe.Pointer(unsafe.StringData(whole)))
	return a < b+uintptr(len(whole)) && b < a+uintptr(len(part))
}

func TestP25MemoryOfDecode(t *testing.T) {
	for _, l := range lists() {
		key := strings.Clone(mustEncode(t, l))
		kept := strings.Clone(key)
		first, e := keycode.Decode(key)
		second, f := keycode.Decode(key)
		if e != api.OK || f != api.OK || key != kept {
			t.Fatalf("Decode(%x): %d, %d", kept, e, f)
		}
		for _, v := range first {
			if within(v.Text, key) {
				t.Fatalf("Decode(%x): the text %q is a piece of the key", key, v.Text)
			}
		}
		for i := range first {
			first[i] = api.Value{Kind: 9, N: 9, Text: "changed"}
		}
		if !slices.Equal(second, l) {
			t.Fatalf("Decode(%x) = %#v, after another answer was changed", key, second)
		}
		_ = append(first, null)
		if third, _ := keycode.Decode(key); !slices.Equal(third, l) {
			t.Fatalf("Decode(%x) = %#v, once more", key, third)
		}
	}
}

func TestP25MemoryOfEncode(t *testing.T) {
	for _, l := range append(lists(), wrongLists()...) {
		given := slices.Clone(l)
		key, e := keycode.Encode(given)
		kept := strings.Clone(key)
		if !slices.Equal(given, l) {
			t.Fatalf("Encode changed %#v to %#v", l, given)
		}
		for i := range given {
			if within(key, given[i].Text) {
				t.Fatalf("Encode(%#v) is a piece of a text", l)
			}
			given[i] = num(12345)
		}
		if key != kept {
			t.Fatalf("the key of %#v hangs on the list", l)
		}
		if again, f := keycode.Encode(l); again != key || f != e {
			t.Fatalf("Encode(%#v): once %x, %d, once %x, %d", l, key, e, again, f)
		}
	}
}

func TestP25MemoryOfLessAndAfter(t *testing.T) {
	for _, a := range wrongLists() {
		for _, b := range [][]api.Value{nil, list(num(1)), list(null, null), a} {
			x, y := slices.Clone(a), slices.Clone(b)
			is := keycode.Less(x, y)
			if !slices.Equal(x, a) || !slices.Equal(y, b) || is != keycode.Less(x, y) {
				t.Fatalf("Less(%#v, %#v) left %#v, %#v", a, b, x, y)
			}
		}
	}
	for _, s := range shortOctets(4, "\x00a\xff") {
		given := strings.Clone(s)
		if after := keycode.After(given); within(after, given) || given != s {
			t.Fatalf("After(%x) shares its text", s)
		}
	}
}
