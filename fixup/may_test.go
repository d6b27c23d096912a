package fixup_test

import (
	"cmp"
	"math"
	"strings"
	"testing"

	"clevis/api"
	"clevis/fixup"
)

// P12.1 (May, Order)

func TestMay(t *testing.T) {
	long := strings.Repeat("s", 255)
	for _, x := range []struct {
		what string
		f    api.Fixup
		want bool
	}{
		{"nothing", api.Fixup{}, false},
		{"a rebase of nothing", api.Fixup{Kind: api.FixRebase}, true},
		{"a rebase", rebase(8, 4096), true},
		{"a rebase of a highest byte", rebase(8, 0xFF00000000001000), true},
		{"a rebase at the end of all", rebase(math.MaxUint64, math.MaxUint64), true},
		{"a rebase of an ordinal", api.Fixup{Kind: api.FixRebase, Ordinal: 1}, false},
		{"a rebase of an ordinal below 0", api.Fixup{Kind: api.FixRebase, Ordinal: -1}, false},
		{"a rebase of a symbol", api.Fixup{Kind: api.FixRebase, Symbol: "a"}, false},
		{"a rebase of an addend", api.Fixup{Kind: api.FixRebase, Addend: 1}, false},
		{"a rebase of an addend below 0", api.Fixup{Kind: api.FixRebase, Addend: -1}, false},
		{"a rebase that is a weak import", api.Fixup{Kind: api.FixRebase, Weak: true}, false},
		{"a rebase of all", api.Fixup{Kind: api.FixRebase, At: 8, Target: 8, Ordinal: 1, Symbol: "a", Addend: 1, Weak: true}, false},
		{"a bind", bind(16384, 1, "_puts", 0), true},
		{"a bind at the end of all", bind(math.MaxUint64, 1, "a", 0), true},
		{"a weak import", weakly(bind(8, 1, "a", 0)), true},
		{"a bind to the image itself", bind(8, api.OrdSelf, "a", 0), true},
		{"a bind to the main image", bind(8, api.OrdMain, "a", 0), true},
		{"a flat bind", bind(8, api.OrdFlat, "a", 0), true},
		{"a weak bind", bind(8, api.OrdWeak, "a", 0), true},
		{"a bind below it", bind(8, -4, "a", 0), false},
		{"a bind far below it", bind(8, math.MinInt, "a", 0), false},
		{"a bind to the last dependency", bind(8, 64, "a", 0), true},
		{"a bind behind it", bind(8, 65, "a", 0), false},
		{"a bind far behind it", bind(8, math.MaxInt, "a", 0), false},
		{"a bind to one of 32 bits", bind(8, 1<<32+1, "a", 0), false},
		{"a bind of the greatest addend", bind(8, 1, "a", math.MaxInt64), true},
		{"a bind of the smallest addend", bind(8, 1, "a", math.MinInt64), true},
		{"a bind with a target", api.Fixup{Kind: api.FixBind, Target: 1, Symbol: "a"}, false},
		{"a bind with a great target", api.Fixup{Kind: api.FixBind, Target: 1 << 63, Symbol: "a"}, false},
		{"a bind without a symbol", bind(8, 1, "", 0), false},
		{"a symbol of 255 bytes", bind(8, 1, long, 0), true},
		{"a symbol of 256 bytes", bind(8, 1, long+"s", 0), false},
		{"a symbol of many bytes", bind(8, 1, strings.Repeat("s", 1<<20), 0), false},
		{"a symbol of any other bytes", bind(8, 1, "\xff\x01 \n\x80%", 0), true},
		{"a symbol of 0 alone", bind(8, 1, "\x00", 0), false},
		{"a symbol that begins with 0", bind(8, 1, "\x00a", 0), false},
		{"a symbol that ends with 0", bind(8, 1, "a\x00", 0), false},
		{"a symbol with 0", bind(8, 1, "a\x00b", 0), false},
		{"a symbol of 255 bytes with 0", bind(8, 1, long[1:]+"\x00", 0), false},
		{"one of no kind", api.Fixup{At: 8, Target: 8}, false},
		{"a bind of no kind", api.Fixup{At: 8, Symbol: "a"}, false},
		{"one of a kind behind both", api.Fixup{Kind: 3}, false},
		{"a bind of a kind behind both", api.Fixup{Kind: 3, Symbol: "a"}, false},
		{"one of a kind below 0", api.Fixup{Kind: -1}, false},
		{"one of a kind of 32 bits", api.Fixup{Kind: 1<<32 + 1}, false},
	} {
		if fixup.May(x.f) != x.want || wantMay(x.f) != x.want {
			t.Errorf("%s: may it be? %v", x.what, !x.want)
		}
		checkOne(t, x.f)
	}
}

// TestMayOfEach: kinds and ordinals of each number, symbols of each size and of each byte.
func TestMayOfEach(t *testing.T) {
	for kind := -300; kind < 300; kind++ {
		if is := fixup.May(api.Fixup{Kind: api.FixKind(kind)}); is != (kind == 1) {
			t.Errorf("may one of the kind %d be? %v", kind, is)
		}
		if is := fixup.May(api.Fixup{Kind: api.FixKind(kind), Symbol: "a"}); is != (kind == 2) {
			t.Errorf("may one of the kind %d with a symbol be? %v", kind, is)
		}
	}
	for ordinal := -600; ordinal < 600; ordinal++ {
		if is := fixup.May(bind(8, ordinal, "a", 0)); is != (ordinal >= -3 && ordinal <= 64) {
			t.Errorf("may a bind of the ordinal %d be? %v", ordinal, is)
		}
		if is := fixup.May(api.Fixup{Kind: api.FixRebase, Ordinal: ordinal}); is != (ordinal == 0) {
			t.Errorf("may a rebase of the ordinal %d be? %v", ordinal, is)
		}
	}
	for size := range 600 {
		if is := fixup.May(bind(8, 1, strings.Repeat("n", size), 0)); is != (size >= 1 && size <= 255) {
			t.Errorf("may a symbol of %d bytes be? %v", size, is)
		}
	}
	for v := range 256 {
		for _, symbol := range []string{string([]byte{byte(v)}), string([]byte{byte(v), 'a'}), string([]byte{'a', byte(v)}), string([]byte{'a', byte(v), 'a'})} {
			if is := fixup.May(bind(8, 1, symbol, 0)); is != (v != 0) {
				t.Errorf("may %q be? %v", symbol, is)
			}
			checkOne(t, bind(8, 1, symbol, 0))
		}
	}
	for bit := range 64 {
		for _, f := range []api.Fixup{rebase(1<<bit, 0), rebase(0, 1<<bit), bind(1<<bit, 1, "a", 0), bind(0, 1, "a", 1<<bit), bind(0, 1, "a", -1<<bit)} {
			if !fixup.May(f) {
				t.Errorf("%+v may not be", f)
			}
			checkOne(t, f)
		}
		if f := (api.Fixup{Kind: api.FixBind, Symbol: "a", Target: 1 << bit}); fixup.May(f) {
			t.Errorf("%+v may be", f)
		}
		if f := (api.Fixup{Kind: api.FixRebase, Addend: 1 << bit}); fixup.May(f) {
			t.Errorf("%+v may be", f)
		}
	}
}

// TestOrderOfEach: what is looked at later has no say, whatever it is.
func TestOrderOfEach(t *testing.T) {
	// Each one is behind those ahead of it.
	rising := []api.Fixup{
		{At: 0, Kind: math.MaxInt, Target: math.MaxUint64, Ordinal: 64, Symbol: "z", Addend: 9, Weak: true},
		{At: 1, Kind: math.MinInt, Target: math.MaxUint64, Ordinal: 64, Symbol: "z", Addend: 9, Weak: true},
		{At: 1, Kind: -1, Target: math.MaxUint64, Ordinal: 64, Symbol: "z", Addend: 9, Weak: true},
		{At: 1, Kind: 0, Target: math.MaxUint64, Ordinal: 64, Symbol: "z", Addend: 9, Weak: true},
		{At: 1, Kind: 1, Target: math.MaxUint64, Ordinal: 64, Symbol: "z", Addend: 9, Weak: true},
		{At: 1, Kind: 2, Target: 0, Ordinal: 64, Symbol: "z", Addend: 9, Weak: true},
		{At: 1, Kind: 2, Target: 1, Ordinal: 64, Symbol: "z", Addend: 9, Weak: true},
		{At: 1, Kind: 2, Target: 1 << 63, Ordinal: 64, Symbol: "z", Addend: 9, Weak: true},
		{At: 1, Kind: 2, Target: math.MaxUint64, Ordinal: math.MinInt, Symbol: "z", Addend: 9, Weak: true},
		{At: 1, Kind: 2, Target: math.MaxUint64, Ordinal: -3, Symbol: "z", Addend: 9, Weak: true},
		{At: 1, Kind: 2, Target: math.MaxUint64, Ordinal: -1, Symbol: "z", Addend: 9, Weak: true},
		{At: 1, Kind: 2, Target: math.MaxUint64, Ordinal: 0, Symbol: "z", Addend: 9, Weak: true},
		{At: 1, Kind: 2, Target: math.MaxUint64, Ordinal: 1, Symbol: "z", Addend: 9, Weak: true},
		{At: 1, Kind: 2, Target: math.MaxUint64, Ordinal: 2, Symbol: "", Addend: 9, Weak: true},
		{At: 1, Kind: 2, Target: math.MaxUint64, Ordinal: 2, Symbol: "\x00", Addend: 9, Weak: true},
		{At: 1, Kind: 2, Target: math.MaxUint64, Ordinal: 2, Symbol: "Z", Addend: 9, Weak: true},
		{At: 1, Kind: 2, Target: math.MaxUint64, Ordinal: 2, Symbol: "_", Addend: 9, Weak: true},
		{At: 1, Kind: 2, Target: math.MaxUint64, Ordinal: 2, Symbol: "a", Addend: 9, Weak: true},
		{At: 1, Kind: 2, Target: math.MaxUint64, Ordinal: 2, Symbol: "aa", Addend: 9, Weak: true},
		{At: 1, Kind: 2, Target: math.MaxUint64, Ordinal: 2, Symbol: "ab", Addend: 9, Weak: true},
		{At: 1, Kind: 2, Target: math.MaxUint64, Ordinal: 2, Symbol: "b", Addend: 9, Weak: true},
		{At: 1, Kind: 2, Target: math.MaxUint64, Ordinal: 2, Symbol: "\u00e9", Addend: 9, Weak: true},
		{At: 1, Kind: 2, Target: math.MaxUint64, Ordinal: 2, Symbol: "\xef\xbf\xbd", Addend: 9, Weak: true},
		{At: 1, Kind: 2, Target: math.MaxUint64, Ordinal: 2, Symbol: "\xf0", Addend: math.MinInt64, Weak: true},
		{At: 1, Kind: 2, Target: math.MaxUint64, Ordinal: 2, Symbol: "\xf0", Addend: -10, Weak: true},
		{At: 1, Kind: 2, Target: math.MaxUint64, Ordinal: 2, Symbol: "\xf0", Addend: -9, Weak: true},
		{At: 1, Kind: 2, Target: math.MaxUint64, Ordinal: 2, Symbol: "\xf0", Addend: 0, Weak: true},
		{At: 1, Kind: 2, Target: math.MaxUint64, Ordinal: 2, Symbol: "\xf0", Addend: 10, Weak: false},
		{At: 1, Kind: 2, Target: math.MaxUint64, Ordinal: 2, Symbol: "\xf0", Addend: 10, Weak: true},
		{At: 1, Kind: 2, Target: math.MaxUint64, Ordinal: 2, Symbol: "\xf0", Addend: math.MaxInt64},
		{At: 1, Kind: 2, Target: math.MaxUint64, Ordinal: 2, Symbol: "\xf1"},
		{At: 1, Kind: 2, Target: math.MaxUint64, Ordinal: math.MaxInt},
		{At: 1, Kind: 3},
		{At: 1, Kind: math.MaxInt},
		{At: 2},
		{At: 1 << 31},
		{At: 1 << 63},
		{At: math.MaxUint64},
	}
	for i, a := range rising {
		for k, b := range rising {
			want := cmp.Compare(i, k)
			if got := fixup.Order(a, b); got != want {
				t.Errorf("the order of %+v, %+v: %d, want %d", a, b, got, want)
			}
			checkTwo(t, a, b)
		}
	}
}

func TestOrderOfLike(t *testing.T) {
	for _, f := range some() {
		if fixup.Order(f, f) != 0 {
			t.Errorf("%+v is not alike to itself", f)
		}
		// Symbols of the same bytes, that are not the same memory.
		f.Symbol = string(append([]byte(f.Symbol), 'x'))[:len(f.Symbol)]
		for _, k := range some() {
			checkTwo(t, f, k)
		}
	}
}

// some are fixups that are alike but for some of what they have, some of which may be.
func some() []api.Fixup {
	l := []api.Fixup{{}}
	wider := func(change ...func(f *api.Fixup)) {
		for _, f := range l {
			for _, c := range change {
				k := f
				c(&k)
				l = append(l, k)
			}
		}
	}
	wider(func(f *api.Fixup) { f.At = 5 }, func(f *api.Fixup) { f.At = 1 << 63 })
	wider(func(f *api.Fixup) { f.Kind = api.FixRebase }, func(f *api.Fixup) { f.Kind = api.FixBind })
	wider(func(f *api.Fixup) { f.Target = 1<<56 + 7 })
	wider(func(f *api.Fixup) { f.Ordinal = -2 }, func(f *api.Fixup) { f.Ordinal = 1 })
	wider(func(f *api.Fixup) { f.Symbol = "a" }, func(f *api.Fixup) { f.Symbol = "a\xff" })
	wider(func(f *api.Fixup) { f.Addend = -1 }, func(f *api.Fixup) { f.Addend = 1 })
	wider(func(f *api.Fixup) { f.Weak = true })
	return l
}

// TestOrderOfSome: each two of many, which are alike where nothing of them is another.
func TestOrderOfSome(t *testing.T) {
	l := some()
	for _, a := range l {
		checkOne(t, a)
	}
	for i, a := range l {
		// Not all with all: that would be a million.
		for k := i % 7; k < len(l); k += 7 {
			checkTwo(t, a, l[k])
		}
	}
}
