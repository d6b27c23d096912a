package trie_test

import (
	"bytes"
	"math"
	"slices"
	"strings"
	"testing"

	"clevis/api"
	"clevis/trie"
)

// P9.2 (May, Make)

func TestMay(t *testing.T) {
	long := strings.Repeat("n", 255)
	for _, x := range []struct {
		what string
		x    api.Export
		want bool
	}{
		{"nothing", api.Export{}, false},
		{"no kind", api.Export{Name: "a"}, false},
		{"no name", api.Export{Kind: api.ExpRegular, Value: 1}, false},
		{"a regular one", api.Export{Name: "a", Kind: api.ExpRegular, Value: 1}, true},
		{"a regular one of 0", api.Export{Name: "a", Kind: api.ExpRegular}, true},
		{"an absolute one", api.Export{Name: "a", Kind: api.ExpAbsolute, Value: math.MaxUint64}, true},
		{"a re-export", api.Export{Name: "a", Kind: api.ExpReexport, Ordinal: 1, Other: "b"}, true},
		{"a re-export of its own name", api.Export{Name: "a", Kind: api.ExpReexport, Ordinal: math.MaxUint64}, true},
		{"a re-export of the ordinal 0", api.Export{Name: "a", Kind: api.ExpReexport, Other: "b"}, true},
		{"a stub", api.Export{Name: "a", Kind: api.ExpStub, Value: 1, Resolver: 2}, true},
		{"a stub of nothing", api.Export{Name: "a", Kind: api.ExpStub}, true},
		{"a name of 255 bytes", api.Export{Name: long, Kind: api.ExpRegular}, true},
		{"a name of 256 bytes", api.Export{Name: long + "n", Kind: api.ExpRegular}, false},
		{"a name of any other bytes", api.Export{Name: "\xff\x01 \n", Kind: api.ExpRegular}, true},
		{"a name that begins with 0", api.Export{Name: "\x00a", Kind: api.ExpRegular}, false},
		{"a name that ends with 0", api.Export{Name: "a\x00", Kind: api.ExpRegular}, false},
		{"a name with 0", api.Export{Name: "a\x00b", Kind: api.ExpStub}, false},
		{"another one's name of 255 bytes", api.Export{Name: "a", Kind: api.ExpReexport, Other: long}, true},
		{"another one's name of 256 bytes", api.Export{Name: "a", Kind: api.ExpReexport, Other: long + "n"}, false},
		{"another one's name with 0", api.Export{Name: "a", Kind: api.ExpReexport, Other: "b\x00"}, false},
		{"another one's name of 0 alone", api.Export{Name: "a", Kind: api.ExpReexport, Other: "\x00"}, false},
	} {
		if trie.May(x.x) != x.want || wantMay(x.x) != x.want {
			t.Errorf("%s: may it be? %v", x.what, !x.want)
		}
		x.x.Weak = true
		if trie.May(x.x) != x.want {
			t.Errorf("%s, weak: may it be? %v", x.what, !x.want)
		}
	}
}

// family are exports of each kind, and others, with each of what kinds have or not.
func family(name string) []api.Export {
	var l []api.Export
	for _, kind := range []api.ExportKind{math.MinInt, -1, 0, 1, 2, 3, 4, 5, 8, 16, 1 << 32, math.MaxInt} {
		for bits := range 32 {
			x := api.Export{Name: name, Kind: kind, Weak: bits&1 != 0}
			if bits&2 != 0 {
				x.Value = 1 << 63
			}
			if bits&4 != 0 {
				x.Resolver = 1
			}
			if bits&8 != 0 {
				x.Ordinal = 1 << 32
			}
			if bits&16 != 0 {
				x.Other = "o"
			}
			l = append(l, x)
		}
	}
	return l
}

func TestMayOfAllKinds(t *testing.T) {
	for _, name := range []string{"", "a", "\x00", strings.Repeat("a", 255), strings.Repeat("a", 256)} {
		may := 0
		for _, x := range family(name) {
			is := trie.May(x)
			if is != wantMay(x) {
				t.Errorf("may %+v be? %v", x, is)
			}
			if is {
				may++
			}
			if _, err := checkMake(t, x); (err == api.OK) != is {
				t.Errorf("Make of %+v: %v", x, err)
			}
		}
		// Weak or not: a value of two kinds, two things of two kinds.
		want := 2 * (2*2 + 2*4)
		if name == "" || name == "\x00" || len(name) > 255 {
			want = 0
		}
		if may != want {
			t.Errorf("of the name %q %d may be, want %d", name, may, want)
		}
	}
}

// plainly are regular exports of names.
func plainly(names ...string) []api.Export {
	var l []api.Export
	for i, name := range names {
		l = append(l, api.Export{Name: name, Kind: api.ExpRegular, Value: uint64(i)})
	}
	return l
}

func TestMakeByItsBytes(t *testing.T) {
	for _, x := range []struct {
		what string
		l    []api.Export
		want []byte
	}{
		{"none", nil, nil},
		{"one", plainly("a"), []byte{0, 1, 'a', 0, 5, 2, 0, 0, 0}},
		{"one of a long edge", plainly("main"), append([]byte("\x00\x01main\x00\x08"), 2, 0, 0, 0)},
		{"a name ahead of another one's end", plainly("a", "ab"), []byte{0, 1, 'a', 0, 5, 2, 0, 0, 1, 'b', 0, 12, 2, 0, 1, 0}},
		{"two that part", plainly("xb", "xa"), []byte{0, 1, 'x', 0, 5, 0, 2, 'a', 0, 13, 'b', 0, 17, 2, 0, 1, 0, 2, 0, 0, 0}},
		{"two that have nothing in common", plainly("b", "a"), []byte{0, 2, 'a', 0, 8, 'b', 0, 12, 2, 0, 1, 0, 2, 0, 0, 0}},
		{"of all kinds", []api.Export{{Name: "d", Kind: api.ExpStub, Value: 128, Resolver: 2, Weak: true}, {Name: "c", Kind: api.ExpReexport, Ordinal: 128, Other: "o"}, {Name: "b", Kind: api.ExpReexport, Ordinal: 2, Weak: true}, {Name: "a", Kind: api.ExpAbsolute, Value: 5}}, []byte{
			0, 4, 'a', 0, 14, 'b', 0, 18, 'c', 0, 23, 'd', 0, 30,
			2, 2, 5, 0,
			3, 12, 2, 0, 0,
			5, 8, 128, 1, 'o', 0, 0,
			4, 20, 128, 1, 2, 0,
		}},
		{"bytes above 127 rise, too", plainly("\xff", "a", "\x80"), []byte{0, 3, 'a', 0, 11, 128, 0, 15, 255, 0, 19, 2, 0, 1, 0, 2, 0, 2, 0, 2, 0, 0, 0}},
	} {
		b, err := trie.Make(x.l...)
		if !bytes.Equal(b, x.want) || err != api.OK {
			t.Errorf("%s: % x (%v), want % x", x.what, b, err, x.want)
		}
		checkMake(t, x.l...)
	}
}

// subsets are all rows of some names, in one order and in the other.
func subsets(names []string) [][]string {
	var all [][]string
	for bits := range 1 << len(names) {
		var l []string
		for i, name := range names {
			if bits>>i&1 != 0 {
				l = append(l, name)
			}
		}
		all = append(all, l)
		l = slices.Clone(l)
		slices.Reverse(l)
		all = append(all, l)
	}
	return all
}

func TestMakeOfAllSubsets(t *testing.T) {
	for _, names := range [][]string{
		{"a", "ab", "abc", "abd", "ac", "b", "ba", "bab", "c", "\xff\xfe"},
		{"_main", "_malloc", "_m", "_", "_memory", "main", "_mainly", "_mail", "x"},
	} {
		for _, l := range subsets(names) {
			b, err := checkMake(t, plainly(l...)...)
			if err != api.OK {
				t.Fatalf("%v: %v", l, err)
			}
			again(t, b, plainly(l...))
		}
	}
}

// kinds are exports of names, of all kinds by turns.
func kinds(names ...string) []api.Export {
	var l []api.Export
	for i, name := range names {
		x := api.Export{Name: name, Kind: api.ExportKind(1 + i%4), Weak: i%3 == 1}
		switch x.Kind {
		case api.ExpReexport:
			x.Ordinal, x.Other = uint64(i)*7, strings.Repeat("o", i*37%256)
		case api.ExpStub:
			x.Value, x.Resolver = 1<<(i%64), uint64(i)
		default:
			x.Value = math.MaxUint64 >> (i % 64)
		}
		l = append(l, x)
	}
	return l
}

// numbered are many names, of the digits of numbers from 0 on.
func numbered(many, base, size int) []string {
	var l []string
	for i := range many {
		var b []byte
		for n := i; len(b) < size; n /= base {
			b = append([]byte{byte('0' + n%base)}, b...)
		}
		l = append(l, "_"+string(b))
	}
	return l
}

// TestMakeOfMany: places have one, two and three bytes, and grow by one another.
func TestMakeOfMany(t *testing.T) {
	for many := 1; many < 130; many++ {
		for _, base := range []int{2, 3, 10} {
			l := kinds(numbered(many, base, 8)...)
			b, err := checkMake(t, l...)
			if err != api.OK {
				t.Fatalf("%d of base %d: %v", many, base, err)
			}
			again(t, b, l)
		}
	}
	for _, many := range []int{500, 900, 1000, 1500, 2000, 3000, 4000, 4095, 4096} {
		for _, base := range []int{2, 16, 60} {
			b, err := checkMake(t, kinds(numbered(many, base, 12)...)...)
			if err != api.OK {
				t.Fatalf("%d of base %d: %v", many, base, err)
			}
			checkAll(t, b)
		}
	}
}

// TestPlacesGrow: at each place of the boundaries where a number has one byte more.
func TestPlacesGrow(t *testing.T) {
	for _, around := range []int{128, 16384} {
		for d := -40; d < 40; d++ {
			// The other one's name lays those behind it so far.
			var l []api.Export
			for rest, i := around+d, 0; rest > 0; rest, i = rest-262, i+1 {
				l = append(l, api.Export{Name: "a" + string(rune('a'+i%26)) + string(rune('a'+i/26)), Kind: api.ExpReexport, Other: strings.Repeat("o", min(rest, 255))})
			}
			l = append(l, plainly("b", "ba", "bb", "bbc", "bc", "bca", "bcb")...)
			b, err := checkMake(t, l...)
			if err != api.OK {
				t.Fatal(err)
			}
			again(t, b, l)
		}
	}
}

// unmade asks that Make answers that error, and nothing beside it.
func unmade(t *testing.T, what string, want api.Errno, l ...api.Export) {
	t.Helper()
	if b, err := trie.Make(l...); b != nil || err != want {
		t.Errorf("%s: %d bytes (%v), want %v", what, len(b), err, want)
	}
	checkMake(t, l...)
}

func TestMakeOfWrongOnes(t *testing.T) {
	good := plainly("a", "b", "ab")
	bad := []api.Export{{}, {Name: "x"}, {Name: "x", Kind: 5}, {Kind: api.ExpRegular}, {Name: "x\x00", Kind: api.ExpRegular}, {Name: "x", Kind: api.ExpRegular, Resolver: 1}, {Name: "x", Kind: api.ExpReexport, Value: 1}, {Name: "x", Kind: api.ExpStub, Other: "y"}, {Name: strings.Repeat("x", 256), Kind: api.ExpRegular}}
	for _, x := range bad {
		for i := range len(good) + 1 {
			unmade(t, "one that may not be", api.ErrArg, slices.Insert(slices.Clone(good), i, x)...)
			unmade(t, "one that may not be, and two of one name", api.ErrArg, slices.Insert(append(slices.Clone(good), good...), i, x)...)
		}
		unmade(t, "one that may not be, of too many", api.ErrArg, append(plainly(numbered(5000, 10, 5)...), x)...)
	}
}

func TestMakeOfTwoOfOneName(t *testing.T) {
	l := plainly("a", "ab", "b", "bc", "abc")
	for _, x := range l {
		for i := range len(l) + 1 {
			for _, twin := range []api.Export{x, {Name: x.Name, Kind: api.ExpStub}, {Name: x.Name, Kind: api.ExpReexport, Ordinal: 1}} {
				unmade(t, "two of one name", api.ErrTwice, slices.Insert(slices.Clone(l), i, twin)...)
			}
		}
	}
	unmade(t, "two alone", api.ErrTwice, l[0], l[0])
	unmade(t, "three", api.ErrTwice, l[0], l[0], l[0])
}

func TestMakeOfTooMany(t *testing.T) {
	names := numbered(4097, 2, 13)
	checkMake(t, plainly(names[:4096]...)...)
	unmade(t, "4097 exports", api.ErrMany, plainly(names...)...)
	unmade(t, "4097 exports, two of them of one name", api.ErrMany, plainly(append(slices.Clone(names[:4096]), names[7])...)...)
	unmade(t, "4096 exports, two of them of one name", api.ErrTwice, plainly(append(slices.Clone(names[:4095]), names[7])...)...)
	unmade(t, "many more", api.ErrMany, plainly(numbered(1<<16, 16, 4)...)...)
}

// TestMakeOfTooManyBytes: a trie of as many bytes as a file has is made; one of one byte more is not.
func TestMakeOfTooManyBytes(t *testing.T) {
	l := plainly(numbered(4096, 64, 4)...)
	last := &l[len(l)-1]
	// So many bytes of others' names, but for the last one's.
	fill := func(size int) int {
		for i := range l {
			n := min(255, size)
			l[i] = api.Export{Name: l[i].Name, Kind: api.ExpReexport, Other: strings.Repeat("o", n)}
			size -= n
		}
		last.Other = ""
		b, _ := trie.Make(l...)
		return len(b)
	}
	below, above := 0, 4096*255
	if n := fill(above); n != 0 {
		t.Fatalf("%d bytes are made", n)
	}
	unmade(t, "too many bytes", api.ErrMany, l...)
	for above-below > 1 {
		if size := (below + above) / 2; fill(size) > 0 {
			below = size
		} else {
			above = size
		}
	}
	room := api.MaxFile - fill(below)
	if room > 100 {
		t.Fatalf("%d bytes are left", room)
	}
	// Nothing stands behind the last one: each byte more of it is one more of the trie.
	last.Other = strings.Repeat("o", room)
	if b, err := checkMake(t, l...); len(b) != api.MaxFile || err != api.OK {
		t.Errorf("%d bytes (%v)", len(b), err)
	}
	last.Other += "o"
	unmade(t, "one byte more", api.ErrMany, l...)
	l[0] = l[1]
	unmade(t, "too many bytes, and two of one name", api.ErrTwice, l...)
}

func TestWhatIsMadeIsNewMemory(t *testing.T) {
	_, l := whole(t)
	first, _ := trie.Make(l...)
	want := bytes.Clone(first)
	clear(first)
	_ = append(first[:0], 9, 9, 9)
	second, _ := trie.Make(l...)
	clear(l)
	if !bytes.Equal(second, want) {
		t.Errorf("what is made then is another one: % x, want % x", second, want)
	}
}

func TestTheOrderOfExportsIsNothing(t *testing.T) {
	want, l := whole(t)
	for range l {
		l = append(l[1:], l[0])
		turned := slices.Clone(l)
		slices.Reverse(turned)
		for _, x := range [][]api.Export{l, turned} {
			if b, err := checkMake(t, x...); !bytes.Equal(b, want) || err != api.OK {
				t.Errorf("% x (%v), want % x", b, err, want)
			}
		}
	}
}
