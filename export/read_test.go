package export_test

import (
	"bytes"
	"math"
	"slices"
	"strings"
	"testing"

	"clevis/api"
	"clevis/export"
	"clevis/image"
)

// P11.1 (All) and P11.2 (Find)

// answered asks that just these are an image's exports.
func answered(t *testing.T, what string, slice []byte, m api.Image, want ...api.Export) {
	t.Helper()
	l, err := check(t, slice, m)
	if !slices.Equal(l, want) || err != api.OK {
		t.Errorf("%s: %s (%v), want %s", what, briefly(l), err, briefly(want))
	}
}

// refused asks that All is refused by an error.
func refused(t *testing.T, what string, slice []byte, m api.Image, want api.Errno) {
	t.Helper()
	if l, err := check(t, slice, m); l != nil || err != want {
		t.Errorf("%s: %s (%v), want %v", what, briefly(l), err, want)
	}
}

// found asks that Find answers that of its name; lost that it answers none, and that error.
func found(t *testing.T, what string, slice []byte, m api.Image, want api.Export) {
	t.Helper()
	if x, is, err := checkFind(t, slice, m, want.Name); x != want || !is || err != api.OK {
		t.Errorf("%s: %+v, %v (%v), want %+v", what, x, is, err, want)
	}
}

func lost(t *testing.T, what string, slice []byte, m api.Image, name string, want api.Errno) {
	t.Helper()
	if x, is, err := checkFind(t, slice, m, name); x != (api.Export{}) || is || err != want {
		t.Errorf("%s: %+v, %v (%v), want %v", what, x, is, err, want)
	}
}

func TestTheExamples(t *testing.T) {
	table, names := madeTable(t, api.Symbol{Name: "b", Section: 1, Value: fineLow + 32})
	slice, m := fine(madeTrie(t, regular("a", 16)), table, names)
	may(t, slice, m)
	answered(t, "of a trie and a table", slice, m, regular("a", 16))
	lost(t, "the table's", slice, m, "b", api.OK)
	slice, m = fine(nil, table, names)
	may(t, slice, m)
	answered(t, "of the table alone", slice, m, regular("b", 32))
	found(t, "of the table alone", slice, m, regular("b", 32))
	slice, m = fine(nil, nil, nil)
	answered(t, "of nothing", slice, m)
	lost(t, "of nothing", slice, m, "a", api.OK)
	lost(t, "of nothing, too long a name", slice, m, strings.Repeat("a", 256), api.OK)
}

// TestFiles: slices whose images are told by image.Of.
func TestFiles(t *testing.T) {
	table, names := madeTable(t, api.Symbol{Name: "z", Section: 4, Value: 0x14000}, api.Symbol{Name: "b", Section: 1, Value: fineLow}, api.Symbol{Name: "w", Value: 9, Weak: true})
	l := []api.Export{regular("a", 0), reexport("r", 2, "other"), weakly(stub("s", 1, fineLong-1))}
	ofTable := []api.Export{regular("b", 0), weakly(absolute("w", 9)), regular("z", 0x4000)}
	for _, x := range []struct {
		what  string
		slice []byte
		want  []api.Export
	}{
		{"a trie", filed(t, madeTrie(t, l...), nil, nil), l},
		{"a table", filed(t, nil, table, names), ofTable},
		{"both", filed(t, madeTrie(t, l...), table, names), l},
		{"none", filed(t, nil, nil, nil), nil},
		{"strings without a table", filed(t, nil, nil, names), nil},
		{"a trie of no names, and a table", filed(t, []byte{0, 0}, table, names), nil},
	} {
		m, err := image.Of(x.slice)
		if err != api.OK {
			t.Fatal(x.what, err)
		}
		answered(t, x.what, x.slice, m, x.want...)
		for _, e := range x.want {
			found(t, x.what, x.slice, m, e)
		}
	}
}

// TestWhatMayBeTheImages: each kind, at the edges of how long the image is and of how many dependencies it has.
func TestWhatMayBeTheImages(t *testing.T) {
	far := []uint64{fineLong, fineLong + 1, fineLow + fineLong, 1 << 32, 1 << 63, math.MaxUint64, 1<<64 - fineLow}
	for _, v := range []uint64{0, 1, fineLow, fineLong - 1} {
		for _, x := range []api.Export{regular("a", v), stub("a", v, 0), stub("a", 0, v), stub("a", v, v), absolute("a", v), weakly(regular("a", v)), weakly(stub("a", v, 1))} {
			slice, m := ofTrie(t, x)
			may(t, slice, m)
			answered(t, "within", slice, m, x)
			found(t, "within", slice, m, x)
		}
	}
	for _, v := range far {
		for _, x := range []api.Export{regular("a", v), stub("a", v, 0), stub("a", 0, v), stub("a", v, v), weakly(regular("a", v)), weakly(stub("a", fineLong-1, v))} {
			slice, m := ofTrie(t, x)
			refused(t, "not within", slice, m, api.ErrRange)
			lost(t, "not within", slice, m, "a", api.ErrRange)
			lost(t, "another name", slice, m, "b", api.OK)
		}
		slice, m := ofTrie(t, absolute("a", v))
		answered(t, "absolute", slice, m, absolute("a", v))
	}
	for deps := range 4 {
		for _, ordinal := range []uint64{0, 1, 2, 3, 4, 64, 65, 1 << 32, 1<<32 + 1, 1 << 63, math.MaxUint64} {
			x := reexport("a", ordinal, "other")
			slice, m := ofTrie(t, x)
			m.Deps = make([]api.Dep, deps)
			if ordinal >= 1 && ordinal <= uint64(deps) {
				answered(t, "a dependency's", slice, m, x)
				found(t, "a dependency's", slice, m, x)
			} else {
				refused(t, "nobody's", slice, m, api.ErrOrdinal)
				lost(t, "nobody's", slice, m, "a", api.ErrOrdinal)
			}
		}
	}
}

// TestATablesValues: a symbol's place in a section becomes an offset from low.
func TestATablesValues(t *testing.T) {
	for _, weak := range []bool{false, true} {
		for section := 1; section <= fineSections; section++ {
			for _, v := range []uint64{0, 1, 0x2000, fineLong - 1} {
				slice, m := ofTable(t, api.Symbol{Name: "a", Section: section, Value: fineLow + v, Weak: weak})
				may(t, slice, m)
				want := regular("a", v)
				want.Weak = weak
				answered(t, "of a section", slice, m, want)
				found(t, "of a section", slice, m, want)
			}
			for _, v := range []uint64{0, 1, fineLow - 1, fineLow + fineLong, 1 << 63, math.MaxUint64} {
				slice, m := ofTable(t, api.Symbol{Name: "a", Section: section, Value: v, Weak: weak})
				refused(t, "not within", slice, m, api.ErrRange)
				lost(t, "not within", slice, m, "a", api.ErrRange)
				lost(t, "another name", slice, m, "b", api.OK)
			}
		}
		for _, v := range []uint64{0, 1, fineLow - 1, fineLow, fineLow + fineLong, math.MaxUint64} {
			slice, m := ofTable(t, api.Symbol{Name: "a", Value: v, Weak: weak})
			want := absolute("a", v)
			want.Weak = weak
			answered(t, "absolute", slice, m, want)
			found(t, "absolute", slice, m, want)
		}
	}
}

// TestAllSectionsCount: those of each segment, a hole's, too; of no other ones is a symbol.
func TestAllSectionsCount(t *testing.T) {
	slice, m := ofTable(t, api.Symbol{Name: "a", Section: fineSections + 1, Value: fineLow})
	refused(t, "one section more", slice, m, api.ErrSymtab)
	lost(t, "one section more", slice, m, "a", api.ErrSymtab)
	lost(t, "one section more, another name", slice, m, "b", api.ErrSymtab)
	slice, m = ofTable(t, api.Symbol{Name: "a", Section: fineSections, Value: fineLow})
	answered(t, "the last one", slice, m, regular("a", 0))
	for i := range m.Segments {
		if i == len(m.Segments)-1 {
			continue
		}
		fewer := like(m)
		fewer.Segments[i].Sections = fewer.Segments[i].Sections[1:]
		refused(t, "one section fewer", slice, fewer, api.ErrSymtab)
		more := like(m)
		more.Segments[len(m.Segments)-1].Sections = make([]api.Section, 1)
		more.Segments[i].Sections = more.Segments[i].Sections[1:]
		answered(t, "one fewer, another one's", slice, more, regular("a", 0))
	}
}

// TestByRisingNames: whatever the order in the table, or of a trie's children, is.
func TestByRisingNames(t *testing.T) {
	l := []api.Symbol{{Name: "b", Value: 1}, {Name: "\xffa", Value: 2}, {Name: "a", Value: 3}, {Name: "ab", Value: 4}, {Name: "B", Value: 5}, {Name: "a\x01", Value: 6}}
	slice, m := ofTable(t, l...)
	answered(t, "a table", slice, m, absolute("B", 5), absolute("a", 3), absolute("a\x01", 6), absolute("ab", 4), absolute("b", 1), absolute("\xffa", 2))
	slice, m = fine([]byte{0, 2, 'b', 0, 8, 'a', 0, 12, 2, 0, 1, 0, 2, 0, 2, 0}, nil, nil)
	answered(t, "a trie", slice, m, regular("a", 2), regular("b", 1))
}

func TestTheFirstOneThatMayNotBe(t *testing.T) {
	for _, x := range []struct {
		what string
		l    []api.Export
		want api.Errno
	}{
		{"a Value first", []api.Export{regular("a", fineLong), reexport("b", 3, "")}, api.ErrRange},
		{"an Ordinal first", []api.Export{reexport("a", 0, ""), regular("b", fineLong)}, api.ErrOrdinal},
		{"one that may be first", []api.Export{reexport("a", 2, ""), regular("b", 5), absolute("c", 1<<63), reexport("d", 3, ""), stub("e", 0, fineLong)}, api.ErrOrdinal},
		{"the last one alone", []api.Export{reexport("a", 2, ""), regular("b", 5), stub("e", 0, fineLong)}, api.ErrRange},
	} {
		slice, m := ofTrie(t, x.l...)
		refused(t, x.what, slice, m, x.want)
		slices.Reverse(x.l)
		slice, m = ofTrie(t, x.l...)
		refused(t, x.what, slice, m, x.want)
	}
	// By rising names, not in the order of the children: b stands ahead of a.
	tree := []byte{0, 2, 'b', 0, 8, 'a', 0, 14, 4, 0, 0xFF, 0xFF, 0x7F, 0, 3, 8, 3, 0, 0}
	slice, m := fine(tree, nil, nil)
	refused(t, "children out of order", slice, m, api.ErrOrdinal)
	lost(t, "children out of order", slice, m, "b", api.ErrRange)
}

// TestFindAsksOfItsNameAlone: others that may not be the image's do not matter.
func TestFindAsksOfItsNameAlone(t *testing.T) {
	slice, m := ofTrie(t, regular("a", 5), regular("b", fineLong), reexport("c", 3, ""), stub("d", 1, 2))
	refused(t, "All", slice, m, api.ErrRange)
	found(t, "ahead", slice, m, regular("a", 5))
	found(t, "behind", slice, m, stub("d", 1, 2))
	lost(t, "itself", slice, m, "b", api.ErrRange)
	lost(t, "itself", slice, m, "c", api.ErrOrdinal)
	lost(t, "none", slice, m, "e", api.OK)
	lost(t, "none", slice, m, "", api.OK)
	slice, m = ofTable(t, api.Symbol{Name: "b", Section: 1}, api.Symbol{Name: "a", Section: 1, Value: fineLow + 5})
	refused(t, "All", slice, m, api.ErrRange)
	found(t, "of a table", slice, m, regular("a", 5))
	lost(t, "of a table, itself", slice, m, "b", api.ErrRange)
	lost(t, "of a table, none", slice, m, "c", api.OK)
}

// TestErrorsOfTheTrie go ahead of what may not be the image's; the table is not looked at beside a trie.
func TestErrorsOfTheTrie(t *testing.T) {
	// Of a, which may not be the image's, and of b, which is no node.
	tree := []byte{0, 2, 'a', 0, 8, 'b', 0, 99, 3, 8, 9, 0, 0}
	table, names := madeTable(t, api.Symbol{Name: "c", Section: 1})
	for _, at := range []int{0, 1, len(names)} {
		slice, m := fine(tree, table, names[:at])
		refused(t, "All", slice, m, api.ErrTrie)
		lost(t, "on the way", slice, m, "b", api.ErrTrie)
		lost(t, "on another way", slice, m, "a", api.ErrOrdinal)
		lost(t, "on no way", slice, m, "c", api.OK)
		lost(t, "too long a name", slice, m, strings.Repeat("c", 256), api.ErrName)
	}
	slice, m := fine(madeTrie(t, regular("a", 1)), table[:15], nil)
	answered(t, "beside a wrong table", slice, m, regular("a", 1))
	for _, x := range []struct {
		what string
		tree []byte
		want api.Errno
	}{
		{"one that goes round", []byte{0, 1, 'a', 0, 0}, api.ErrTrie},
		{"one byte", []byte{0}, api.ErrTrie},
		{"flags that may not be", []byte{2, 1, 0, 0}, api.ErrTrie},
		{"too long a name", append(append([]byte{0, 1}, bytes.Repeat([]byte{'a'}, 256)...), 0, 0), api.ErrTrie},
	} {
		slice, m := fine(x.tree, table, names)
		refused(t, x.what, slice, m, x.want)
	}
}

// TestErrorsOfTheTable go ahead of what may not be the image's.
func TestErrorsOfTheTable(t *testing.T) {
	low := api.Symbol{Name: "a", Section: 1, Value: 0}
	table, names := madeTable(t, low, api.Symbol{Name: "b"})
	change := func(i int, v byte) []byte {
		b := bytes.Clone(table)
		b[i] = v
		return b
	}
	for _, x := range []struct {
		what         string
		table, names []byte
		want         api.Errno
	}{
		{"as it is", table, names, api.ErrRange},
		{"one byte short", table[:31], names, api.ErrSymtab},
		{"one byte more", append(bytes.Clone(table), 0), names, api.ErrSymtab},
		{"a section that there is not", append(bytes.Clone(table[:16]), change(5, 7)[:16]...), names, api.ErrSymtab},
		{"no strings", table, nil, api.ErrSymtab},
		{"strings that do not end", table, names[:len(names)-1], api.ErrSymtab},
		{"one name twice", change(16, 1), names, api.ErrTwice},
		{"too long a name", change(16, 5), append(bytes.Clone(names), append(bytes.Repeat([]byte{'l'}, 256), 0)...), api.ErrName},
	} {
		slice, m := fine(nil, x.table, x.names)
		refused(t, x.what, slice, m, x.want)
		lost(t, x.what, slice, m, "a", x.want)
		if x.want != api.ErrRange {
			lost(t, x.what, slice, m, "b", x.want)
			lost(t, x.what, slice, m, "none", x.want)
		}
	}
	many, texts := madeTable(t, low)
	many = bytes.Repeat(many, 4097)
	for i := range 4097 {
		place := len(texts)
		texts = append(texts, byte('a'+i%26), byte('a'+i/26%26), byte('a'+i/676), 0)
		copy(many[16*i:], []byte{byte(place), byte(place >> 8), byte(place >> 16), 0})
	}
	slice, m := fine(nil, many, texts)
	refused(t, "4097 names", slice, m, api.ErrMany)
	slice, m = fine(nil, many[16:], texts)
	refused(t, "4096 names", slice, m, api.ErrRange)
}

// TestSpansThatAreNotWithin: of an image that may not be. Their sizes tell where its exports come from, all the same.
func TestSpansThatAreNotWithin(t *testing.T) {
	table, names := madeTable(t, api.Symbol{Name: "b", Value: 1})
	slice, whole := fine(madeTrie(t, regular("a", 1)), table, names)
	end := uint64(len(slice))
	for _, s := range []api.Span{{Off: end, Size: 1}, {Off: end - 1, Size: 2}, {Off: end + 1, Size: 1}, {Off: math.MaxUint64, Size: 1}, {Off: math.MaxUint64, Size: math.MaxUint64}, {Off: 1, Size: math.MaxUint64}, {Off: whole.Trie.Off, Size: math.MaxUint64 - whole.Trie.Off}} {
		m := like(whole)
		m.Trie = s
		answered(t, "a trie that is not within", slice, m)
		lost(t, "a trie that is not within", slice, m, "a", api.OK)
		lost(t, "a trie that is not within, too long a name", slice, m, strings.Repeat("a", 256), api.ErrName)
		m.Trie, m.Symbols = api.Span{}, s
		answered(t, "a table that is not within", slice, m)
		lost(t, "a table that is not within", slice, m, "b", api.OK)
		m.Symbols, m.Strings = whole.Symbols, s
		refused(t, "strings that are not within", slice, m, api.ErrSymtab)
		lost(t, "strings that are not within", slice, m, "b", api.ErrSymtab)
	}
	m := like(whole)
	m.Trie.Size = 0
	answered(t, "a trie's place alone", slice, m, absolute("b", 1))
	m.Symbols.Size = 0
	answered(t, "a table's place alone", slice, m)
}

// TestImagesThatGoRound: of images that may not be, whose segments go round at 2^64, values less Low count so, too.
func TestImagesThatGoRound(t *testing.T) {
	round := api.Segment{Addr: 1<<64 - 0x1000, Size: 0x3000, Prot: 5, Sections: make([]api.Section, 1)}
	for _, x := range []struct {
		value uint64
		want  uint64
		err   api.Errno
	}{
		{1<<64 - 0x1000, 0, api.OK}, {math.MaxUint64, 0xFFF, api.OK}, {0, 0x1000, api.OK}, {0x1FFF, 0x2FFF, api.OK},
		{0x2000, 0, api.ErrRange}, {1 << 63, 0, api.ErrRange}, {1<<64 - 0x1001, 0, api.ErrRange},
	} {
		table, names := madeTable(t, api.Symbol{Name: "a", Section: 1, Value: x.value})
		slice, m := wild(nil, table, names, round)
		if x.err != api.OK {
			refused(t, "behind it", slice, m, x.err)
			lost(t, "behind it", slice, m, "a", x.err)
			continue
		}
		answered(t, "within it", slice, m, regular("a", x.want))
		found(t, "within it", slice, m, regular("a", x.want))
		if at := export.At(m, regular("a", x.want), 0); at != x.value {
			t.Errorf("at %x, want %x", at, x.value)
		}
		slice, m = wild(madeTrie(t, regular("a", x.want)), nil, nil, round)
		answered(t, "a trie's", slice, m, regular("a", x.want))
	}
	// A segment that ends just at 2^64, and one of the like that is not the first.
	table, names := madeTable(t, api.Symbol{Name: "a", Section: 1, Value: math.MaxUint64})
	slice, m := wild(nil, table, names, api.Segment{Addr: 1<<64 - 0x1000, Size: 0x1000, Prot: 1, Sections: make([]api.Section, 1)})
	answered(t, "just at 2^64", slice, m, regular("a", 0xFFF))
	slice, m = wild(nil, table, names, api.Segment{Addr: 0x1000, Size: 0x1000, Prot: 1, Sections: make([]api.Section, 1)}, api.Segment{Addr: 1<<64 - 0x1000, Size: 0x1000, Prot: 1})
	refused(t, "behind the greatest of the ends, which went round", slice, m, api.ErrRange)
	// Nothing goes round: below Low there is nothing, whatever stands there.
	table, names = madeTable(t, api.Symbol{Name: "a", Section: 1, Value: 0x1800})
	slice, m = wild(nil, table, names, api.Segment{Addr: 0x2000, Size: 1 << 63, Prot: 1, Sections: make([]api.Section, 1)}, api.Segment{Addr: 0x1000, Size: 0x1000, Prot: 1})
	refused(t, "below Low", slice, m, api.ErrRange)
	// An image without any segment is not long at all.
	slice, m = wild(madeTrie(t, regular("a", 0)), nil, nil)
	refused(t, "no segments", slice, m, api.ErrRange)
	slice, m = wild(madeTrie(t, absolute("a", 0)), nil, nil, api.Segment{Size: 0x1000})
	answered(t, "a hole alone, absolute", slice, m, absolute("a", 0))
	slice, m = wild(madeTrie(t, stub("a", 0, 0)), nil, nil, api.Segment{Size: 0x1000})
	refused(t, "a hole alone", slice, m, api.ErrRange)
}

// P11.3 (At)

func TestAt(t *testing.T) {
	_, m := fine(nil, nil, nil)
	for _, x := range []struct {
		x     api.Export
		slide uint64
		want  uint64
	}{
		{regular("a", 0), 0, fineLow},
		{regular("a", 5), 0x4000, fineLow + 0x4005},
		{weakly(regular("a", 5)), 1 << 40, 1<<40 + fineLow + 5},
		{regular("a", 5), 1<<64 - fineLow, 5},
		{regular("a", fineLow), 1<<64 - 2*fineLow, 0},
		{regular("a", math.MaxUint64), 1, fineLow},
		{stub("a", 7, 9), 0x8000, fineLow + 0x8007},
		{stub("a", 0, 9), 1<<64 - 0x8000, fineLow - 0x8000},
		{absolute("a", 7), 0x4000, 7},
		{absolute("a", math.MaxUint64), 1, math.MaxUint64},
		{reexport("a", 1, "b"), 0x4000, 0},
		{reexport("a", math.MaxUint64, ""), 0, 0},
		{api.Export{Name: "a", Kind: api.ExpReexport, Value: 9, Resolver: 9}, 0x4000, 0},
		{api.Export{Name: "a", Kind: api.ExpAbsolute, Value: 9, Resolver: 8, Ordinal: 7}, 0x4000, 9},
		{api.Export{Name: "", Kind: api.ExpStub, Value: 9, Ordinal: 7, Other: "x"}, 0, fineLow + 9},
	} {
		checkAt(t, m, x.x, x.slide)
		if at := export.At(m, x.x, x.slide); at != x.want {
			t.Errorf("%+v, slide %x: %x, want %x", x.x, x.slide, at, x.want)
		}
	}
	// Of an image without a segment that is no hole Low is 0.
	for _, none := range []api.Image{{}, {Segments: []api.Segment{{Addr: 4096, Size: 4096}}}} {
		checkAt(t, none, regular("a", 5), 7)
		if at := export.At(none, regular("a", 5), 7); at != 12 {
			t.Errorf("no segments: %x", at)
		}
	}
	for _, n := range []uint64{0, 1, fineLow, 1 << 32, 1 << 63, math.MaxUint64} {
		for _, slide := range []uint64{0, 1, 0x4000, 1 << 63, 1<<64 - fineLow, math.MaxUint64} {
			for _, x := range []api.Export{regular("a", n), stub("a", n, slide), stub("a", slide, n), absolute("a", n), reexport("a", n, ""), {Kind: 0, Value: n}, {Kind: 5, Value: n}, {Kind: -1, Value: n}} {
				checkAt(t, m, x, slide)
				checkAt(t, api.Image{Segments: []api.Segment{{Addr: n, Size: 9, Prot: 1}}}, x, slide)
			}
		}
	}
}

// TestAnAnswerIsNewMemory: it neither changes with the slice nor with another answer.
func TestAnAnswerIsNewMemory(t *testing.T) {
	table, names := madeTable(t, api.Symbol{Name: "beta", Value: 1}, api.Symbol{Name: "alpha", Value: 2})
	l := []api.Export{absolute("alpha", 2), reexport("beta", 1, "gamma")}
	tree := madeTrie(t, l...)
	for _, x := range []struct {
		tree, table, names []byte
		want               []api.Export
	}{{tree, nil, nil, l}, {nil, table, names, []api.Export{absolute("alpha", 2), absolute("beta", 1)}}} {
		slice, m := fine(x.tree, x.table, x.names)
		first, _ := export.All(slice, m)
		second, _ := export.All(slice, m)
		one, _, _ := export.Find(slice, m, "beta")
		clear(first)
		if !slices.Equal(second, x.want) {
			t.Error("an answer changes with another one")
		}
		clear(slice)
		if !slices.Equal(second, x.want) || one != x.want[1] {
			t.Error("an answer changes with the slice")
		}
	}
}
