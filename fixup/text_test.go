package fixup_test

import (
	"fmt"
	"math"
	"strings"
	"testing"

	"clevis/api"
	"clevis/fixup"
)

// P12.3 (Value, Text, Of)

func TestValue(t *testing.T) {
	const end = math.MaxUint64
	for _, x := range []struct {
		what          string
		f             api.Fixup
		slide, target uint64
		want          uint64
	}{
		{"a rebase, not slid", rebase(8, 0x1000), 0, 9, 0x1000},
		{"a rebase", rebase(8, 0x1000), 0x4000, 9, 0x5000},
		{"a rebase of a highest byte", rebase(8, 0xFF00000000001000), 0x4000, 9, 0xFF00000000005000},
		{"a rebase slid down", rebase(8, 0x8000), 1<<64 - 0x4000, 9, 0x4000},
		{"a rebase slid below 0", rebase(8, 0x1000), 1<<64 - 0x4000, 9, 1<<56 - 0x3000},
		{"a rebase of a highest byte slid below 0", rebase(8, 0x7F<<56), end, 9, 1<<63 - 1},
		{"a rebase slid to 2^56", rebase(8, 1<<56-1), 1, 9, 0},
		{"a rebase of a highest byte slid to 2^56", rebase(8, 1<<57-1), 1, 9, 1 << 56},
		{"a rebase slid beyond 2^56", rebase(8, 0xAB<<56+1<<55), 1<<55 + 7, 9, 0xAB<<56 + 7},
		{"a rebase, the slide's highest byte", rebase(8, 0x1000), 0xFF<<56 + 1, 9, 0x1001},
		{"a rebase of all", rebase(8, end), end, 9, end - 1},
		{"a rebase, not of its address", rebase(0x77, 0), 0, 9, 0},
		{"a bind", bind(8, 1, "a", 0), 0x4000, 9, 9},
		{"a bind and an addend", bind(8, 1, "a", 5), 0x4000, 9, 14},
		{"a bind and an addend below 0", bind(8, 1, "a", -1), 0x4000, 9, 8},
		{"a bind to 0", weakly(bind(8, 1, "a", 0)), 0x4000, 0, 0},
		{"a bind below 0", bind(8, 1, "a", -1), 0x4000, 0, end},
		{"a bind to 2^64", bind(8, 1, "a", 1), 0x4000, end, 0},
		{"a bind of the greatest addend", bind(8, 1, "a", math.MaxInt64), 1, end, math.MaxInt64 - 1},
		{"a bind of the smallest addend", bind(8, 1, "a", math.MinInt64), 1, 1 << 63, 0},
		{"a bind beyond 2^56", bind(8, 1, "a", 1), 1, 1<<56 - 1, 1 << 56},
		{"a bind with a target", api.Fixup{Kind: api.FixBind, Target: 1 << 60, Addend: 2}, 1, 3, 5},
		{"a rebase with an addend", api.Fixup{Kind: api.FixRebase, Target: 1 << 60, Addend: 2}, 1, 3, 1<<60 + 1},
		{"what is neither", api.Fixup{}, 0x4000, 9, 9},
		{"what is neither, and an addend", api.Fixup{Kind: 3, Target: 7, Addend: -2}, 0x4000, 9, 7},
		{"what is neither, below 0", api.Fixup{Kind: -1, Target: 7, Addend: -2}, 0x4000, 1, end},
	} {
		if v := fixup.Value(x.f, x.slide, x.target); v != x.want {
			t.Errorf("%s: %#x, want %#x", x.what, v, x.want)
		}
		checkOne(t, x.f)
	}
}

// TestValueOfEach: targets, slides and addends of each bit, and of all below it.
func TestValueOfEach(t *testing.T) {
	var l []uint64
	for bit := range 64 {
		l = append(l, 1<<bit, 1<<bit-1, -(uint64(1) << bit))
	}
	for _, a := range l {
		for _, b := range l {
			for _, f := range []api.Fixup{rebase(8, a), bind(8, 1, "a", int64(a)), {Kind: 9, Target: a, Addend: int64(a)}} {
				if v := fixup.Value(f, b, ^b); v != wantValue(f, b, ^b) {
					t.Fatalf("of %+v, %#x, %#x: %#x, want %#x", f, b, ^b, v, wantValue(f, b, ^b))
				}
			}
			// Each lets the other's be.
			if fixup.Value(rebase(8, a), b, b) != fixup.Value(rebase(8, a), b, 0) || fixup.Value(bind(8, 1, "a", int64(a)), b, b) != fixup.Value(bind(8, 1, "a", int64(a)), 0, b) {
				t.Fatalf("of %#x, %#x", a, b)
			}
		}
	}
}

// texts are fixups and their texts.
func texts() map[string]api.Fixup {
	return map[string]api.Fixup{
		"0x4000 bind 1 _puts 0":                                   bind(16384, 1, "_puts", 0),
		"0x8 rebase 0x100000000000010":                            rebase(8, 1<<56+16),
		"0x8 bind -2 a%25b -1 weak":                               weakly(bind(8, -2, "a%b", -1)),
		"0x0 rebase 0x0":                                          rebase(0, 0),
		"0xffffffffffffffff rebase 0xfedcba9876543210":            rebase(math.MaxUint64, 0xFEDCBA9876543210),
		"0x0 bind 0 a 0":                                          bind(0, 0, "a", 0),
		"0xa bind -3 ~ 9223372036854775807":                       bind(10, -3, "~", math.MaxInt64),
		"0xabc bind -1 ! -9223372036854775808 weak":               weakly(bind(0xABC, -1, "!", math.MinInt64)),
		"0x10 bind 64 %20 10":                                     bind(16, 64, " ", 10),
		"0x10 bind 9 a%20b%09c%0a -10":                            bind(16, 9, "a b\tc\n", -10),
		"0x10 bind 10 weak 0":                                     bind(16, 10, "weak", 0),
		"0x10 bind 10 weak 0 weak":                                weakly(bind(16, 10, "weak", 0)),
		"0x10 bind 10 bind 1":                                     bind(16, 10, "bind", 1),
		"0x10 bind 10 rebase 1":                                   bind(16, 10, "rebase", 1),
		"0x10 bind 10 0x1 1":                                      bind(16, 10, "0x1", 1),
		"0x10 bind 10 %01%7f%80%ff%1f 1":                          bind(16, 10, "\x01\x7f\x80\xff\x1f", 1),
		"0x10 bind 10 %c3%a9%ef%bf%bd 1":                          bind(16, 10, "\u00e9\ufffd", 1),
		"0x10 bind 10 %25 1":                                      bind(16, 10, "%", 1),
		"0x10 bind 10 %25%25%2525 1":                              bind(16, 10, "%%%25", 1),
		"0x10 bind 10 a%2541 1":                                   bind(16, 10, "a%41", 1),
		"0x10 bind 10 $\"#&'()*+,-./:;<=>?@[\\]^_`{|} 1":          bind(16, 10, "$\"#&'()*+,-./:;<=>?@[\\]^_`{|}", 1),
		"0x10 bind 10 " + strings.Repeat("s", 255) + " 1":         bind(16, 10, strings.Repeat("s", 255), 1),
		"0x10 bind 10 " + strings.Repeat("%ff", 255) + " -1 weak": weakly(bind(16, 10, strings.Repeat("\xff", 255), -1)),
	}
}

func TestText(t *testing.T) {
	for s, f := range texts() {
		if got := fixup.Text(f); got != s || wantText(f) != s {
			t.Errorf("%+v: %q, want %q", f, got, s)
		}
		checkOne(t, f)
	}
}

// TestTextOfWhatMayNotBe: there is none.
func TestTextOfWhatMayNotBe(t *testing.T) {
	for _, f := range []api.Fixup{
		{}, {At: 8, Target: 8}, {Kind: 3, Symbol: "a"}, {Kind: -1},
		{Kind: api.FixRebase, Ordinal: 1}, {Kind: api.FixRebase, Symbol: "a"}, {Kind: api.FixRebase, Addend: 1}, {Kind: api.FixRebase, Weak: true},
		bind(8, 1, "", 0), bind(8, 65, "a", 0), bind(8, -4, "a", 0), bind(8, 1, "a\x00", 0), bind(8, 1, strings.Repeat("a", 256), 0),
		{Kind: api.FixBind, Symbol: "a", Target: 1},
	} {
		if s := fixup.Text(f); s != "" {
			t.Errorf("%+v: %q", f, s)
		}
		checkOne(t, f)
	}
}

// TestTextOfEach: numbers of each digit, symbols of each byte.
func TestTextOfEach(t *testing.T) {
	for bit := range 64 {
		for _, n := range []uint64{1 << bit, 1<<bit - 1, -(uint64(1) << bit), 0xFEDCBA9876543210 >> bit} {
			checkOne(t, rebase(n, ^n))
			checkOne(t, bind(n, bit%68-3, "a", int64(n)))
			checkOne(t, weakly(bind(n, bit%68-3, "a", -int64(n))))
		}
	}
	for v := 1; v < 256; v++ {
		symbol := string([]byte{byte(v)})
		word := symbol
		if v < 0x21 || v > 0x7E || v == 0x25 {
			word = fmt.Sprintf("%%%02x", v)
		}
		if s := fixup.Text(bind(1, 2, "a"+symbol+"b", 3)); s != "0x1 bind 2 a"+word+"b 3" {
			t.Errorf("%d: %q", v, s)
		}
		for _, f := range []api.Fixup{bind(1, 2, symbol, 3), bind(1, 2, symbol+symbol, 3), bind(1, 2, "%"+symbol, 3), bind(1, 2, symbol+"%", 3), bind(1, 2, "%2"+symbol, 3)} {
			checkOne(t, f)
		}
	}
	for ordinal := -3; ordinal <= 64; ordinal++ {
		if s := fixup.Text(bind(1, ordinal, "a", 3)); s != fmt.Sprintf("0x1 bind %d a 3", ordinal) {
			t.Errorf("%d: %q", ordinal, s)
		}
		checkOne(t, bind(1, ordinal, "a", 3))
	}
}

func TestOf(t *testing.T) {
	for s, f := range texts() {
		if got, err := checkOf(t, s); got != f || err != api.OK {
			t.Errorf("%q: %+v (%v), want %+v", s, got, err, f)
		}
	}
}

// wrongTexts are none's that may be.
func wrongTexts() []string {
	long := strings.Repeat("s", 256)
	return []string{
		"", " ", "0", "0x", "0x8", "rebase", "bind", "weak",
		"0x8 ", "0x8 rebase", "0x8 rebase ", "0x8 rebase 0x", "0x8 rebase 8", "8 rebase 0x8", "0x rebase 0x8", " rebase 0x8",
		"0x8 rebase 0x8 ", " 0x8 rebase 0x8", "0x8  rebase 0x8", "0x8 rebase  0x8", "0x8 rebase 0x8\n", "0x8\trebase 0x8", "0x8 rebase 0x8\x00",
		"0x08 rebase 0x0", "0x8 rebase 0x00", "0x8 rebase 0x08", "0x00 rebase 0x8", "0X8 rebase 0x8", "0x8 rebase 0X8", "0xA rebase 0x8", "0x8 rebase 0xA",
		"x8 rebase 0x8", "0x0x8 rebase 0x8", "0x-8 rebase 0x8", "0x+8 rebase 0x8", "-0x8 rebase 0x8", "+0x8 rebase 0x8", "0x8g rebase 0x8", "0x8 rebase 0xg",
		"0x8_0 rebase 0x8", "0x8. rebase 0x8", "0x10000000000000000 rebase 0x8", "0x8 rebase 0x10000000000000008", "0x\u0661 rebase 0x8", "0x\xff rebase 0x8", "0x8\xff rebase 0x8",
		"0x8 Rebase 0x8", "0x8 REBASE 0x8", "0x8 rebas 0x8", "0x8 rebasee 0x8", "0x8 rebase 0x8 weak", "0x8 rebase 0x8 0", "0x8 weak 0x8", "0x8 0x8 rebase", "rebase 0x8 0x8",
		"0x8 rebase 1 a 0", "0x8 bind 0x8", "0x8 rebase 0x8, 0x8 rebase 0x8", "0x8 rebase 0x8 0x8 rebase 0x8",
		"0x8 bind", "0x8 bind 1", "0x8 bind 1 a", "0x8 bind 1 a ", "0x8 bind 1  0", "0x8 bind 1 a 0 ", "0x8 bind 1 a 0  ", " 0x8 bind 1 a 0", "0x8 bind  1 a 0", "0x8 bind 1 a  0", "0x8 bind  a 0", "0x8 bind 1 a 0\n",
		"0x8 bind 1 a 0 weak ", "0x8 bind 1 a 0  weak", "0x8 bind 1 a 0 Weak", "0x8 bind 1 a 0 wea", "0x8 bind 1 a 0 strong", "0x8 bind 1 a 0 weak weak", "0x8 bind 1 a weak", "0x8 bind weak 1 a 0", "0x8 weak bind 1 a 0",
		"8 bind 1 a 0", "0x08 bind 1 a 0", "0xA bind 1 a 0", "0x bind 1 a 0", "0x10000000000000008 bind 1 a 0", "0x8 Bind 1 a 0", "0x8 bin 1 a 0", "0x8 bindd 1 a 0",
		"0x8 bind -4 a 0", "0x8 bind 65 a 0", "0x8 bind 01 a 0", "0x8 bind +1 a 0", "0x8 bind -0 a 0", "0x8 bind -01 a 0", "0x8 bind 0x1 a 0", "0x8 bind 1. a 0", "0x8 bind 1_0 a 0", "0x8 bind x a 0", "0x8 bind - a 0", "0x8 bind --1 a 0", "0x8 bind 18446744073709551617 a 0", "0x8 bind 4294967297 a 0", "0x8 bind \u0661 a 0",
		"0x8 bind 1 a 00", "0x8 bind 1 a -0", "0x8 bind 1 a +1", "0x8 bind 1 a 01", "0x8 bind 1 a -01", "0x8 bind 1 a 0x1", "0x8 bind 1 a -", "0x8 bind 1 a x", "0x8 bind 1 a 1x", "0x8 bind 1 a 1_0", "0x8 bind 1 a 1.", "0x8 bind 1 a 1e1",
		"0x8 bind 1 a 9223372036854775808", "0x8 bind 1 a -9223372036854775809", "0x8 bind 1 a 18446744073709551615", "0x8 bind 1 a 18446744073709551616", "0x8 bind 1 a 99999999999999999999999999",
		"0x8 bind 1 % 0", "0x8 bind 1 %2 0", "0x8 bind 1 a% 0", "0x8 bind 1 a%2 0", "0x8 bind 1 %%25 0", "0x8 bind 1 %2% 0", "0x8 bind 1 %2g 0", "0x8 bind 1 %g2 0", "0x8 bind 1 %x25 0", "0x8 bind 1 %+5 0", "0x8 bind 1 %-1 0",
		"0x8 bind 1 %61 0", "0x8 bind 1 %21 0", "0x8 bind 1 %7e 0", "0x8 bind 1 %24 0", "0x8 bind 1 %26 0", "0x8 bind 1 a%5f 0", "0x8 bind 1 %FF 0", "0x8 bind 1 %fF 0", "0x8 bind 1 %0A 0", "0x8 bind 1 %00 0", "0x8 bind 1 a%00 0", "0x8 bind 1 %00a 0", "0x8 bind 1 %ff%0 0", "0x8 bind 1 %0a% 0",
		"0x8 bind 1 a\x00 0", "0x8 bind 1 \x00 0", "0x8 bind 1 a\x7f 0", "0x8 bind 1 a\x01 0", "0x8 bind 1 a\x80 0", "0x8 bind 1 \xff 0", "0x8 bind 1 \u00e9 0", "0x8 bind 1 %\u00e9 0", "0x8 bind 1 a\tb 0", "0x8 bind 1 a\nb 0", "0x8 bind 1 a b 0",
		"0x8 bind 1 " + long + " 0", "0x8 bind 1 " + long + "s 0", "0x8 bind 1 " + strings.Repeat("%ff", 256) + " 0", "0x8 bind 1 " + long[1:] + "%ff 0",
	}
}

func TestOfWrongTexts(t *testing.T) {
	for _, s := range wrongTexts() {
		if f, err := fixup.Of(s); f != (api.Fixup{}) || err != api.ErrArg {
			t.Errorf("%s: %+v (%v), want arg", brief(s), f, err)
		}
		checkOf(t, s)
	}
}

// TestOfLongTexts: of many bytes, in any of the words.
func TestOfLongTexts(t *testing.T) {
	for _, v := range []string{" ", "0", "1", "f", "%", "a", "-", "\xff", "\x00", "%61", "%ff", "weak ", "0x"} {
		s := strings.Repeat(v, 1<<20)
		for _, text := range []string{
			s, s + " rebase 0x8", "0x" + s + " rebase 0x8", "0x8 " + s + " 0x8", "0x8 rebase " + s, "0x8 rebase 0x" + s, "0x8 rebase 0x8 " + s, "0x8 rebase 0x8" + s,
			s + " bind 1 a 0", "0x8 " + s + " 1 a 0", "0x8 bind " + s + " a 0", "0x8 bind 1 " + s + " 0", "0x8 bind 1 a " + s, "0x8 bind 1 a -" + s, "0x8 bind 1 a 0 " + s, "0x8 bind 1 a 0 weak" + s, "0x8 bind 1 a 0 weak " + s,
		} {
			if f, err := fixup.Of(text); f != (api.Fixup{}) || err != api.ErrArg {
				t.Errorf("%s: %+v (%v), want arg", brief(text), f, err)
			}
		}
	}
}
