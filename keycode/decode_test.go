package keycode_test

import (
	"slices"
	"strings"
	"testing"

	"switchback/api"
	"switchback/keycode"
	"switchback/value"
)

func TestP21DecodeOneByOne(t *testing.T) {
	for _, x := range []struct {
		s    string
		want []api.Value
	}{
		{"", nil},
		{"\x04", list(null)},
		{"\x40", list(num(0))},
		{"\x41\x01", list(num(1))},
		{"\x41\xff", list(num(255))},
		{"\x42\x01\x00", list(num(256))},
		{"\x42\x01\x02", list(num(258))},
		{"\x48\x01\x00\x00\x00\x00\x00\x00\x00", list(num(1 << 56))},
		{"\x48\x7f\xff\xff\xff\xff\xff\xff\xff", list(num(greatest))},
		{"\x3f", list(num(-1))},
		{"\x3e\xfe", list(num(-2))},
		{"\x3e\x00", list(num(-256))},
		{"\x3d\xfe\xff", list(num(-257))},
		{"\x37\x80\x00\x00\x00\x00\x00\x00\x00", list(num(least))},
		{"\x50\x51", list(no, yes)},
		{"\x60\x00", list(text(""))},
		{"\x60a\x00", list(text("a"))},
		{"\x60\x01\x01\x00", list(text("\x00"))},
		{"\x60\x01\x02\x00", list(text("\x01"))},
		{"\x60\x02\x03\xff\x00", list(text("\x02\x03\xff"))},
		{"\x60\x00\x60\x00\x04", list(text(""), text(""), null)},
		{"\x40\x42\x01\x02\x3f\x3e\x00\x60a\x01\x01\x00", list(num(0), num(258), num(-1), num(-256), text("a\x00"))},
	} {
		if l, e := keycode.Decode(x.s); !slices.Equal(l, x.want) || e != api.OK {
			t.Errorf("Decode(%x) = %#v, %d", x.s, l, e)
		}
	}
}

func refused(t *testing.T, s string, want api.Errno) {
	t.Helper()
	if l, e := keycode.Decode(s); len(l) != 0 || e != want {
		t.Errorf("Decode(%.80x) = %#v, %d, not %d", s, l, e, want)
	}
}

func TestP21DecodeRefusesOtherFirstOctets(t *testing.T) {
	for c := range 256 {
		first := string([]byte{byte(c)})
		switch {
		case c == 0x04, c >= 0x37 && c <= 0x48, c == 0x50, c == 0x51, c == 0x60:
			if _, e := keycode.Decode(first); e == api.ErrKind {
				t.Errorf("Decode(%x): ErrKind", first)
			}
			continue
		}
		for _, ahead := range []string{"", "\x04", "\x42\x01\x02", "\x60a\x00", strings.Repeat("\x04", 64), strings.Repeat("\x04", 1000)} {
			for _, behind := range []string{"", "\x00", "\x01\x03", "\x48", "\x60" + strings.Repeat("a", 65) + "\x00"} {
				refused(t, ahead+first+behind, api.ErrKind)
			}
		}
	}
}

func TestP21DecodeRefusesOneThatEndsAhead(t *testing.T) {
	for _, v := range rising() {
		key := mustEncode(t, list(v))
		for n := 1; n < len(key); n++ {
			for _, ahead := range []string{"", "\x40", "\x3e\x00", strings.Repeat("\x50", 64)} {
				refused(t, ahead+key[:n], api.ErrShort)
			}
		}
	}
	for _, s := range []string{
		"\x41", "\x42\x01", "\x48\x7f\xff\xff\xff\xff\xff\xff",
		"\x3e", "\x3d\xfe", "\x37\x80\x00\x00\x00\x00\x00\x00",
		"\x42\x00", "\x48\x00", "\x48\xff", "\x48\x80\x00\x00\x00\x00\x00\x00", // whatever its octets are
		"\x3d\xff", "\x37\xff", "\x37\x00", "\x37\x7f\xff\xff\xff\xff\xff\xff",
		"\x60", "\x60a", "\x60\x01", "\x60\x01\x01", "\x60\x01\x02", "\x60a\x01",
	} {
		refused(t, s, api.ErrShort)
	}
}

func TestP21DecodeRefusesNumbersThatAreNone(t *testing.T) {
	for k := 1; k <= 8; k++ { // more octets than it needs
		for _, low := range []string{"\x00", "\x01", "\x7f", "\x80", "\xff"} {
			octets := strings.Repeat(low, k-1)
			for _, behind := range []string{"", "\x04", "\x49"} {
				refused(t, string(rune(0x40+k))+"\x00"+octets+behind, api.ErrArg)
				refused(t, string(rune(0x3f-k))+"\xff"+octets+behind, api.ErrArg)
			}
		}
	}
	for _, s := range []string{ // beyond 64 bits
		"\x48\x80\x00\x00\x00\x00\x00\x00\x00",
		"\x48\x80\x00\x00\x00\x00\x00\x00\x01",
		"\x48\xff\xff\xff\xff\xff\xff\xff\xff",
		"\x37\x7f\xff\xff\xff\xff\xff\xff\xff",
		"\x37\x7f\xff\xff\xff\xff\xff\xff\xfe",
		"\x37\x00\x00\x00\x00\x00\x00\x00\x00",
	} {
		refused(t, s, api.ErrArg)
		refused(t, "\x04"+s+"\x04", api.ErrArg)
	}
}

func TestP21DecodeRefusesTextsWithOtherMarks(t *testing.T) {
	for c := range 256 {
		if c == 1 || c == 2 {
			continue
		}
		mark := "\x01" + string([]byte{byte(c)})
		for _, ahead := range []string{"", "a", "\x01\x01", "\x01\x02", strings.Repeat("a", 64), strings.Repeat("a", 65), strings.Repeat("a", 1000)} {
			for _, behind := range []string{"\x00", "a\x00", "\x00\x49", ""} {
				refused(t, "\x60"+ahead+mark+behind, api.ErrArg)
			}
		}
	}
}

func TestP21DecodeRefusesLongTexts(t *testing.T) {
	for _, c := range []string{"a", "\x01\x01", "\x01\x02", "\xff"} {
		if l, e := keycode.Decode("\x60" + strings.Repeat(c, 64) + "\x00"); e != api.OK || len(l) != 1 || len(l[0].Text) != 64 {
			t.Errorf("Decode of a text of 64 of %x: %d", c, e)
		}
		for _, n := range []int{65, 66, 128, 256, 320, 100000} {
			refused(t, "\x60"+strings.Repeat(c, n)+"\x00", api.ErrLong)
			refused(t, "\x04\x60"+strings.Repeat(c, n)+"\x00\x04", api.ErrLong)
			refused(t, "\x60"+strings.Repeat(c, n)+"\x00\x49", api.ErrLong)
			refused(t, "\x60"+strings.Repeat(c, n), api.ErrShort) // told where it ends
			refused(t, "\x60"+strings.Repeat(c, n)+"\x01", api.ErrShort)
			refused(t, "\x60"+strings.Repeat(c, n)+"\x01\x03\x00", api.ErrArg)
		}
	}
}

func TestP21DecodeRefusesMoreThan64(t *testing.T) {
	for _, one := range []string{"\x04", "\x40", "\x3e\x00", "\x51", "\x60a\x00"} {
		for _, n := range []int{63, 64} {
			if l, e := keycode.Decode(strings.Repeat(one, n)); e != api.OK || len(l) != n {
				t.Errorf("Decode of %d of %x: %d values, %d", n, one, len(l), e)
			}
		}
		for _, n := range []int{65, 66, 128, 256, 320, 1 << 20} {
			refused(t, strings.Repeat(one, n), api.ErrCount)
		}
	}
}

func TestP21DecodeTellsErrCountLast(t *testing.T) {
	for s, want := range map[string]api.Errno{
		"\x49":         api.ErrKind,
		"\x41":         api.ErrShort,
		"\x60a":        api.ErrShort,
		"\x41\x00":     api.ErrArg,
		"\x60\x01\x00": api.ErrArg,
		"\x60" + strings.Repeat("a", 65) + "\x00": api.ErrLong,
	} {
		for _, n := range []int{0, 1, 63, 64, 65, 66, 1000} {
			refused(t, strings.Repeat("\x04", n)+s, want)
		}
	}
}

// Of several errors the one whose octets come first is told, whichever it is.
func TestP21DecodeTellsErrorsInTheOrderOfTheOctets(t *testing.T) {
	faults := map[string]api.Errno{
		"\x00":         api.ErrKind,
		"\x41\x00":     api.ErrArg,
		"\x60\x01\x00": api.ErrArg,
		"\x60" + strings.Repeat("a", 65) + "\x00": api.ErrLong,
	}
	for a, want := range faults {
		for b := range faults {
			refused(t, a+b, want)
			refused(t, "\x51"+a+"\x51"+b, want)
		}
		refused(t, a+"\x41", want)
		refused(t, a+"\x60", want)
	}
}

func TestP23DecodeOfEncodeIsTheList(t *testing.T) {
	for _, l := range lists() {
		if d, e := keycode.Decode(mustEncode(t, l)); e != api.OK || !slices.Equal(d, l) {
			t.Fatalf("Decode of Encode of %#v is %#v, %d", l, d, e)
		}
	}
	next := rolled(2)
	values := rising()
	for range 20000 {
		var l []api.Value
		for range uint(next()) % 65 {
			if v := values[uint(next())%uint(len(values))]; next()&1 == 0 {
				l = append(l, v)
			} else {
				l = append(l, num(next()))
			}
		}
		if d, e := keycode.Decode(mustEncode(t, l)); e != api.OK || !slices.Equal(d, l) {
			t.Fatalf("Decode of Encode of %#v is %#v, %d", l, d, e)
		}
	}
}

// holdTaken: what Decode takes is Encode of it, and beside an error it answers nothing.
func holdTaken(t *testing.T, s string) {
	t.Helper()
	l, e := keycode.Decode(s)
	switch e {
	case api.OK:
		for _, v := range l {
			if value.Check(v) != api.OK {
				t.Fatalf("Decode(%x) = %#v", s, l)
			}
		}
		if again, f := keycode.Encode(l); again != s || f != api.OK {
			t.Fatalf("Encode of Decode of %x is %x, %d", s, again, f)
		}
	case api.ErrKind, api.ErrShort, api.ErrArg, api.ErrLong, api.ErrCount:
		if len(l) != 0 {
			t.Fatalf("Decode(%x) = %#v, %d", s, l, e)
		}
	default:
		t.Fatalf("Decode(%x): %d", s, e)
	}
}

func TestP23WhatDecodeTakesIsEncodeOfIt(t *testing.T) {
	for a := range 256 {
		for b := range 256 {
			holdTaken(t, string([]byte{byte(a), byte(b)}))
			for _, c := range []byte{0x00, 0x01, 0x04, 0x41, 0x60, 0x80, 0xff} {
				holdTaken(t, string([]byte{byte(a), byte(b), c}))
				holdTaken(t, string([]byte{c, byte(a), byte(b), 0}))
			}
		}
	}
	for _, s := range shortOctets(6, "\x00\x01\x02\x04\x3e\x42\x60\xff") {
		holdTaken(t, s)
	}
}

// Keys of which some octets are others: all of them are taken rightly or refused.
func TestP23KeysWithOtherOctets(t *testing.T) {
	next := rolled(3)
	all := lists()
	for range 200000 {
		key := []byte(mustEncode(t, all[uint(next())%uint(len(all))]))
		for range uint(next())%3 + 1 {
			if len(key) > 0 {
				key[uint(next())%uint(len(key))] = "\x00\x01\x02\x03\x04\x37\x3e\x41\x48\x50\x60\x7f\x80\xff"[uint(next())%14]
			}
		}
		holdTaken(t, string(key[:len(key)-int(uint(next())%uint(len(key)+1))/8]))
	}
}
