package value_test

import (
	"math"
	"math/big"
	"strings"
	"testing"

	"switchback/api"
	"switchback/value"
)

const (
	least    = math.MinInt64
	greatest = math.MaxInt64
)

var (
	null = api.Value{}
	no   = api.Value{Kind: 2}
	yes  = api.Value{Kind: 2, N: 1}
)

func num(n int) api.Value { return api.Value{Kind: 1, N: n} }

func text(s string) api.Value { return api.Value{Kind: 3, Text: s} }

func is(b bool) api.Value {
	if b {
		return yes
	}
	return no
}

// edgeNumbers are those where sums and products of 64 bits turn.
func edgeNumbers() []int {
	return []int{
		0, 1, -1, 2, -2, 3, -3, 7, -7, 10, -10,
		1<<31 - 1, 1 << 31, -1 << 31, 1 << 32, -1 << 32, 1<<32 + 1,
		3037000499, 3037000500, -3037000499, -3037000500,
		1<<62 - 1, 1 << 62, -1 << 62, -1<<62 - 1,
		greatest, greatest - 1, least, least + 1,
	}
}

// risingTexts rise octet by octet.
func risingTexts() []string {
	return []string{
		"", "\x00", "\x00\x00", "\x01", " ", "0", "10", "9", "A", "Z", "_",
		"a", "aa", "ab", "b", "z", "\x7f", "\x80", "\u00e9", "\u20ac", "\xff", "\xff\x00",
	}
}

// rising are values that may be, each above the one ahead of it.
func rising() []api.Value {
	l := []api.Value{null}
	for _, n := range []int{least, least + 1, -1 << 32, -2, -1, 0, 1, 2, 1 << 32, greatest - 1, greatest} {
		l = append(l, num(n))
	}
	l = append(l, no, yes)
	for _, s := range risingTexts() {
		l = append(l, text(s))
	}
	return append(l, text(strings.Repeat("\xff", 64)))
}

// wrong are values that may not be.
func wrong() []api.Value {
	return []api.Value{
		{Kind: -1}, {Kind: 4}, {Kind: least}, {Kind: greatest}, {Kind: 4, N: 1}, {Kind: -1, Text: "a"},
		{N: 1}, {N: -1}, {N: least}, {Text: "a"}, {Text: "\x00"},
		{Kind: 1, Text: "a"}, {Kind: 1, N: 5, Text: "5"},
		{Kind: 2, N: 2}, {Kind: 2, N: -1}, {Kind: 2, N: least}, {Kind: 2, N: greatest},
		{Kind: 2, Text: "a"}, {Kind: 2, N: 1, Text: "true"},
		{Kind: 3, N: 1}, {Kind: 3, N: -1, Text: "a"},
		text(strings.Repeat("a", 65)), text(strings.Repeat("a", 1000)), text(strings.Repeat("\u00e9", 33)),
	}
}

func all() []api.Value {
	return append(rising(), wrong()...)
}

func mayBe(v api.Value) bool { return value.Check(v) == api.OK }

// pairs calls f with each two values, some of which may not be.
func pairs(f func(a, b api.Value)) {
	for _, a := range all() {
		for _, b := range all() {
			f(a, b)
		}
	}
}

// triples calls f with each three values, some of which may not be.
func triples(f func(a, b, c api.Value)) {
	pairs(func(a, b api.Value) {
		for _, c := range all() {
			f(a, b, c)
		}
	})
}

// someOps are all that there are, and some that are none.
func someOps() []int {
	l := []int{least, least + 4, -4, -1, 23, 1 << 32, 1<<32 + 4, greatest}
	for op := 0; op <= 22; op++ {
		l = append(l, op)
	}
	return l
}

func TestP11CheckTakesWhatMayBe(t *testing.T) {
	for _, v := range rising() {
		if e := value.Check(v); e != api.OK {
			t.Errorf("Check(%v) = %d", v, e)
		}
	}
	for _, n := range edgeNumbers() {
		if e := value.Check(num(n)); e != api.OK {
			t.Errorf("Check(%d) = %d", n, e)
		}
	}
	for _, s := range []string{strings.Repeat("a", 63), strings.Repeat("a", 64), strings.Repeat("\u00e9", 32), strings.Repeat("\x00", 64)} {
		if e := value.Check(text(s)); e != api.OK {
			t.Errorf("Check of a text of %d octets = %d", len(s), e)
		}
	}
}

func TestP11CheckRefusesWhatMayNotBe(t *testing.T) {
	for _, v := range wrong() {
		if e := value.Check(v); e != api.ErrState {
			t.Errorf("Check(%v) = %d", v, e)
		}
	}
}

func TestP11Order(t *testing.T) {
	l := rising()
	for i, a := range l {
		for j, b := range l {
			want := 0
			if i < j {
				want = -1
			} else if i > j {
				want = 1
			}
			if o := value.Order(a, b); o != want {
				t.Errorf("Order(%v, %v) = %d, not %d", a, b, o, want)
			}
		}
	}
}

func TestP11OrderOfValuesThatMayNotBe(t *testing.T) {
	for _, x := range []struct {
		a, b api.Value
		want int
	}{
		{api.Value{Kind: -1, N: 9}, null, -1},
		{api.Value{Kind: least}, api.Value{Kind: greatest}, -1},
		{api.Value{Kind: 4}, text("z"), 1},
		{api.Value{Kind: 2, N: 7}, yes, 1},
		{api.Value{Kind: 2, N: least}, no, -1},
		{api.Value{Kind: 2, N: least}, api.Value{Kind: 2, N: greatest}, -1},
		{api.Value{Kind: 1, N: 5, Text: "a"}, api.Value{Kind: 1, N: 5, Text: "b"}, 0},
		{api.Value{Kind: 1, N: 4, Text: "b"}, api.Value{Kind: 1, N: 5, Text: "a"}, -1},
		{api.Value{Kind: 3, N: 9, Text: "a"}, api.Value{Kind: 3, N: 1, Text: "b"}, -1},
		{api.Value{Kind: 3, N: 9, Text: "a"}, text("a"), 0},
		{text(strings.Repeat("a", 65)), text(strings.Repeat("a", 64)), 1},
		{text(strings.Repeat("a", 1000)), text("b"), -1},
		{api.Value{N: 1, Text: "a"}, null, 0},
	} {
		if o := value.Order(x.a, x.b); o != x.want {
			t.Errorf("Order(%v, %v) = %d, not %d", x.a, x.b, o, x.want)
		}
		if o := value.Order(x.b, x.a); o != -x.want {
			t.Errorf("Order(%v, %v) = %d, not %d", x.b, x.a, o, -x.want)
		}
	}
}

func TestP11Compare(t *testing.T) {
	pairs(func(a, b api.Value) {
		order, known, e := value.Compare(a, b)
		wantOrder, wantKnown, wantErr := value.Order(a, b), true, api.OK
		switch {
		case !mayBe(a) || !mayBe(b) || a != null && b != null && a.Kind != b.Kind:
			wantOrder, wantKnown, wantErr = 0, false, api.ErrType
		case a == null || b == null:
			wantOrder, wantKnown = 0, false
		}
		if order != wantOrder || known != wantKnown || e != wantErr {
			t.Errorf("Compare(%v, %v) = %d, %t, %d, not %d, %t, %d", a, b, order, known, e, wantOrder, wantKnown, wantErr)
		}
	})
}

func TestP11CompareOneByOne(t *testing.T) {
	for _, x := range []struct {
		a, b  api.Value
		order int
		known bool
		err   api.Errno
	}{
		{num(1), num(2), -1, true, api.OK},
		{num(greatest), num(least), 1, true, api.OK},
		{num(7), num(7), 0, true, api.OK},
		{no, yes, -1, true, api.OK},
		{text("b"), text("ab"), 1, true, api.OK},
		{null, null, 0, false, api.OK},
		{null, num(1), 0, false, api.OK},
		{num(1), null, 0, false, api.OK},
		{null, no, 0, false, api.OK},
		{yes, null, 0, false, api.OK},
		{null, text("a"), 0, false, api.OK},
		{text(""), null, 0, false, api.OK},
		{num(1), yes, 0, false, api.ErrType},
		{yes, text("a"), 0, false, api.ErrType},
		{text("1"), num(1), 0, false, api.ErrType},
		{null, api.Value{Kind: -1}, 0, false, api.ErrType},
		{api.Value{Kind: 4}, null, 0, false, api.ErrType},
		{api.Value{Kind: 4}, api.Value{Kind: 4}, 0, false, api.ErrType},
		{api.Value{N: 1}, num(1), 0, false, api.ErrType},
		{text("a"), text(strings.Repeat("a", 65)), 0, false, api.ErrType},
		{text("a"), text(strings.Repeat("a", 64)), -1, true, api.OK},
	} {
		order, known, e := value.Compare(x.a, x.b)
		if order != x.order || known != x.known || e != x.err {
			t.Errorf("Compare(%v, %v) = %d, %t, %d", x.a, x.b, order, known, e)
		}
	}
}

// An order: of two one way round alone, and of three without a circle; of two values that may be 0 says that they are one.
func TestP13OrderIsAnOrder(t *testing.T) {
	pairs(func(a, b api.Value) {
		o := value.Order(a, b)
		if o < -1 || o > 1 || o != -value.Order(b, a) {
			t.Errorf("Order(%v, %v) = %d, the other way round %d", a, b, o, value.Order(b, a))
		}
		if a == b && o != 0 || mayBe(a) && mayBe(b) && a != b && o == 0 {
			t.Errorf("Order(%v, %v) = %d", a, b, o)
		}
	})
	triples(func(a, b, c api.Value) {
		ab, bc, ac := value.Order(a, b), value.Order(b, c), value.Order(a, c)
		if ab <= 0 && bc <= 0 && (ac > 0 || ac == 0 && (ab < 0 || bc < 0)) {
			t.Errorf("Order of %v, %v, %v: %d, %d, but %d", a, b, c, ab, bc, ac)
		}
	})
}

// No answer has a text, so that none can share one; what was told ahead does not matter.
func TestP16MemoryAndNothingElse(t *testing.T) {
	type told struct {
		check   api.Errno
		order   int
		compare [3]int
		values  [5]api.Value
		errors  [5]api.Errno
	}
	tell := func(op int, a, b api.Value) (x told) {
		order, known, e := value.Compare(a, b)
		x.check, x.order, x.compare = value.Check(a), value.Order(a, b), [3]int{order, is(known).N, int(e)}
		x.values[0], x.errors[0] = value.Reckon(op, a, b)
		x.values[1], x.errors[1] = value.Neg(a)
		x.values[2], x.errors[2] = value.Not(a)
		x.values[3], x.errors[3] = value.And(a, b)
		x.values[4], x.errors[4] = value.Or(a, b)
		return x
	}
	type asked struct {
		op   int
		a, b api.Value
	}
	first := map[asked]told{}
	for _, op := range someOps() {
		pairs(func(a, b api.Value) {
			x := tell(op, a, b)
			first[asked{op, a, b}] = x
			for i, v := range x.values {
				if v.Text != "" || !mayBe(v) {
					t.Errorf("op %d of %v, %v: answer %d is %v", op, a, b, i, v)
				}
				if x.errors[i] != api.OK && v != null {
					t.Errorf("op %d of %v, %v: answer %d is %v beside an error", op, a, b, i, v)
				}
			}
		})
	}
	for q, x := range first {
		if y := tell(q.op, q.a, q.b); x != y {
			t.Errorf("op %d of %v, %v: once %v, once %v", q.op, q.a, q.b, x, y)
		}
	}
}

// byBig reckons with numbers of any size.
func byBig(op int, a, b int) (int, api.Errno) {
	x, y, z := big.NewInt(int64(a)), big.NewInt(int64(b)), new(big.Int)
	switch op {
	case 4:
		z.Add(x, y)
	case 5:
		z.Sub(x, y)
	case 6:
		z.Mul(x, y)
	default:
		if b == 0 {
			return 0, api.ErrZero
		}
		z.Quo(x, y)
	}
	if !z.IsInt64() {
		return 0, api.ErrOver
	}
	return int(z.Int64()), api.OK
}
