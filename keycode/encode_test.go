package keycode_test

import (
	"math/big"
	"strings"
	"testing"

	"switchback/api"
	"switchback/keycode"
)

func TestP21EncodeOneByOne(t *testing.T) {
	for _, x := range []struct {
		l    []api.Value
		want string
	}{
		{nil, ""},
		{list(), ""},
		{list(null), "\x04"},
		{list(num(0)), "\x40"},
		{list(num(1)), "\x41\x01"},
		{list(num(255)), "\x41\xff"},
		{list(num(256)), "\x42\x01\x00"},
		{list(num(258)), "\x42\x01\x02"},
		{list(num(0xffff)), "\x42\xff\xff"},
		{list(num(0x10000)), "\x43\x01\x00\x00"},
		{list(num(0x12345678)), "\x44\x12\x34\x56\x78"},
		{list(num(0x123456789a)), "\x45\x12\x34\x56\x78\x9a"},
		{list(num(0x800000000000)), "\x46\x80\x00\x00\x00\x00\x00"},
		{list(num(1<<56 - 1)), "\x47\xff\xff\xff\xff\xff\xff\xff"},
		{list(num(1 << 56)), "\x48\x01\x00\x00\x00\x00\x00\x00\x00"},
		{list(num(greatest)), "\x48\x7f\xff\xff\xff\xff\xff\xff\xff"},
		{list(num(-1)), "\x3f"},
		{list(num(-2)), "\x3e\xfe"},
		{list(num(-256)), "\x3e\x00"},
		{list(num(-257)), "\x3d\xfe\xff"},
		{list(num(-258)), "\x3d\xfe\xfe"},
		{list(num(-0x10000)), "\x3d\x00\x00"},
		{list(num(-0x10001)), "\x3c\xfe\xff\xff"},
		{list(num(-1 << 56)), "\x38\x00\x00\x00\x00\x00\x00\x00"},
		{list(num(-1<<56 - 1)), "\x37\xfe\xff\xff\xff\xff\xff\xff\xff"},
		{list(num(least + 1)), "\x37\x80\x00\x00\x00\x00\x00\x00\x01"},
		{list(num(least)), "\x37\x80\x00\x00\x00\x00\x00\x00\x00"},
		{list(no), "\x50"},
		{list(yes), "\x51"},
		{list(text("")), "\x60\x00"},
		{list(text("a")), "\x60a\x00"},
		{list(text("\x00")), "\x60\x01\x01\x00"},
		{list(text("\x01")), "\x60\x01\x02\x00"},
		{list(text("\x02")), "\x60\x02\x00"},
		{list(text("\x00\x01\x00")), "\x60\x01\x01\x01\x02\x01\x01\x00"},
		{list(text("a\x01b\x00c")), "\x60a\x01\x02b\x01\x01c\x00"},
		{list(text("\xff\x80")), "\x60\xff\x80\x00"},
		{list(num(0), num(258), num(-1), num(-256), text("a\x00")), "\x40\x42\x01\x02\x3f\x3e\x00\x60a\x01\x01\x00"},
		{list(text(""), null, text("\x00"), yes), "\x60\x00\x04\x60\x01\x01\x00\x51"},
	} {
		if s, e := keycode.Encode(x.l); s != x.want || e != api.OK {
			t.Errorf("Encode(%#v) = %x, %d, not %x", x.l, s, e, x.want)
		}
	}
}

// numberByBig: a number's octets, by numbers of any size.
func numberByBig(n int) string {
	z := big.NewInt(int64(n))
	if n >= 0 {
		b := z.Bytes()
		return string(rune(0x40+len(b))) + string(b)
	}
	b := z.Sub(z.Neg(z), big.NewInt(1)).Bytes()
	for i := range b {
		b[i] = 255 - b[i]
	}
	return string(rune(0x3f-len(b))) + string(b)
}

func TestP21EncodeNumbers(t *testing.T) {
	hold := func(n int) {
		if s, e := keycode.Encode(list(num(n))); s != numberByBig(n) || e != api.OK {
			t.Errorf("Encode(%d) = %x, %d, not %x", n, s, e, numberByBig(n))
		}
	}
	lengths := map[int]int{}
	for _, n := range risingNumbers() {
		hold(n)
		s, _ := keycode.Encode(list(num(n)))
		lengths[int(s[0])]++
	}
	if len(lengths) != 18 { // of 0 to 8 octets, from 0 on and below
		t.Errorf("the numbers have the lengths %#v", lengths)
	}
	next := rolled(1)
	for range 100000 {
		hold(next())
	}
}

// rolled answers numbers of all lengths, the same each time.
func rolled(seed uint64) func() int {
	return func() int {
		seed = seed*6364136223846793005 + 1442695040888963407
		return int(seed) >> (seed >> 58)
	}
}

func TestP21EncodeTakes64(t *testing.T) {
	for _, c := range []string{"a", "\x02", "\xff"} {
		if s, e := keycode.Encode(list(text(strings.Repeat(c, 64)))); s != "\x60"+strings.Repeat(c, 64)+"\x00" || e != api.OK {
			t.Errorf("Encode of 64 of %x = %x, %d", c, s, e)
		}
	}
	for c, twice := range map[string]string{"\x00": "\x01\x01", "\x01": "\x01\x02"} {
		if s, e := keycode.Encode(list(text(strings.Repeat(c, 64)))); s != "\x60"+strings.Repeat(twice, 64)+"\x00" || e != api.OK {
			t.Errorf("Encode of 64 of %x = %x, %d", c, s, e)
		}
	}
	for v, one := range map[api.Value]string{null: "\x04", num(-256): "\x3e\x00", yes: "\x51", text(""): "\x60\x00"} {
		for _, n := range []int{1, 63, 64} {
			if s, e := keycode.Encode(times(v, n)); s != strings.Repeat(one, n) || e != api.OK {
				t.Errorf("Encode of %d of %#v = %x, %d", n, v, s, e)
			}
		}
	}
}

func TestP21EncodeRefusesMoreThan64(t *testing.T) {
	for _, n := range []int{65, 66, 128, 256, 320, 100000} {
		for _, v := range append(wrong(), null, num(1), text("a")) { // even of values that may not be: ErrCount is named first
			if s, e := keycode.Encode(times(v, n)); s != "" || e != api.ErrCount {
				t.Errorf("Encode of %d of %#v = %x, %d", n, v, s, e)
			}
		}
	}
}

func TestP21EncodeRefusesWhatMayNotBe(t *testing.T) {
	for _, l := range wrongLists() {
		if s, e := keycode.Encode(l); s != "" || e != api.ErrState {
			t.Errorf("Encode(%#v) = %x, %d", l, s, e)
		}
	}
	if s, e := keycode.Encode(list(text(strings.Repeat("a", 65)))); s != "" || e != api.ErrState {
		t.Errorf("Encode of a text of 65 = %x, %d", s, e)
	}
}
