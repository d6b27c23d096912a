package trie_test

import (
	"bytes"
	"math"
	"slices"
	"strings"
	"testing"

	"clevis/api"
	"clevis/trie"
)

// P9.1 (Find, All)

// told asks that All answers just those exports, and Find each of them.
func told(t *testing.T, what string, b []byte, want ...api.Export) {
	t.Helper()
	l, err := trie.All(b)
	if !slices.Equal(l, want) || err != api.OK {
		t.Errorf("%s: All is %s (%v), want %s", what, briefly(l), err, briefly(want))
	}
	for _, x := range want {
		if got, is, err := trie.Find(b, x.Name); got != x || !is || err != api.OK {
			t.Errorf("%s: Find of %q is %+v, %v (%v), want %+v", what, x.Name, got, is, err, x)
		}
	}
	check(t, b)
}

// refused asks that All answers that error, and nothing beside it.
func refused(t *testing.T, what string, b []byte, want api.Errno) {
	t.Helper()
	if l, err := trie.All(b); l != nil || err != want {
		t.Errorf("%s: All is %s (%v), want %v", what, briefly(l), err, want)
	}
	check(t, b)
}

// lost asks that Find answers that error, and nothing beside it.
func lost(t *testing.T, what string, b []byte, name string, want api.Errno) {
	t.Helper()
	if x, is, err := trie.Find(b, name); x != (api.Export{}) || is || err != want {
		t.Errorf("%s: Find of %q is %+v, %v (%v), want %v", what, name, x, is, err, want)
	}
	checkFind(t, b, name)
}

// absent asks that a name is not said, and that there is no error.
func absent(t *testing.T, what string, b []byte, names ...string) {
	t.Helper()
	for _, name := range names {
		lost(t, what, b, name, api.OK)
	}
}

func TestTheDocumentsExamples(t *testing.T) {
	a := api.Export{Name: "a", Kind: api.ExpRegular, Value: 7}
	told(t, "one name", []byte{0, 1, 'a', 0, 5, 2, 0, 7, 0}, a)
	b := []byte{0, 1, 'a', 0, 0}
	refused(t, "one that goes round", b, api.ErrTrie)
	lost(t, "one that goes round", b, "a", api.ErrTrie)
	lost(t, "one that goes round", b, "aaa", api.ErrTrie)
	absent(t, "one that goes round", b, "", "b")
	if made, err := trie.Make(a); !bytes.Equal(made, []byte{0, 1, 'a', 0, 5, 2, 0, 7, 0}) || err != api.OK {
		t.Errorf("% x (%v)", made, err)
	}
}

func TestNoBytes(t *testing.T) {
	for _, b := range [][]byte{nil, {}} {
		told(t, "no bytes", b)
		absent(t, "no bytes", b, "", "a", strings.Repeat("a", 255))
		lost(t, "no bytes", b, strings.Repeat("a", 256), api.ErrName)
	}
}

func TestWhatIsSaidOfAName(t *testing.T) {
	most := append(bytes.Repeat([]byte{255}, 9), 1)
	for _, x := range []struct {
		said []byte
		want api.Export
	}{
		{[]byte{0, 0}, api.Export{Kind: api.ExpRegular}},
		{[]byte{0, 7}, api.Export{Kind: api.ExpRegular, Value: 7}},
		{[]byte{4, 128, 1}, api.Export{Kind: api.ExpRegular, Value: 128, Weak: true}},
		{[]byte{2, 9}, api.Export{Kind: api.ExpAbsolute, Value: 9}},
		{append([]byte{6}, most...), api.Export{Kind: api.ExpAbsolute, Value: math.MaxUint64, Weak: true}},
		{[]byte{8, 0, 0}, api.Export{Kind: api.ExpReexport}},
		{[]byte{8, 3, 'x', 0}, api.Export{Kind: api.ExpReexport, Ordinal: 3, Other: "x"}},
		{append(append([]byte{12}, most...), "_y\xff z\x00"...), api.Export{Kind: api.ExpReexport, Ordinal: math.MaxUint64, Other: "_y\xff z", Weak: true}},
		{[]byte{16, 1, 2}, api.Export{Kind: api.ExpStub, Value: 1, Resolver: 2}},
		{[]byte{16, 0, 0}, api.Export{Kind: api.ExpStub}},
		{append(append([]byte{20}, most...), most...), api.Export{Kind: api.ExpStub, Value: math.MaxUint64, Resolver: math.MaxUint64, Weak: true}},
	} {
		for _, name := range []string{"n", "_name", "\xff\x01", strings.Repeat("n", 255)} {
			x.want.Name = name
			told(t, "what is said", drawn(twig(kid{edge: name, node: 1}), leaf(x.said...)), x.want)
		}
		x.want.Name = ""
		told(t, "what is said of the root", drawn(leaf(x.said...)), x.want)
	}
}

// TestAnothersName: what is re-exported has a name of at most 255 bytes, which ends within what is said.
func TestAnothersName(t *testing.T) {
	for _, flags := range []byte{8, 12} {
		for _, size := range []int{0, 1, 124, 125, 126, 254, 255, 256, 257, 1000} {
			other := strings.Repeat("o", size)
			b := drawn(twig(kid{edge: "n", node: 1}), leaf(append([]byte{flags, 3}, other+"\x00"...)...))
			if size <= 255 {
				told(t, "another one's name", b, api.Export{Name: "n", Kind: api.ExpReexport, Weak: flags == 12, Ordinal: 3, Other: other})
			} else {
				refused(t, "another one's long name", b, api.ErrTrie)
				lost(t, "another one's long name", b, "n", api.ErrTrie)
			}
			refused(t, "another one's name without an end", drawn(leaf(append([]byte{flags, 3}, other...)...)), api.ErrTrie)
			refused(t, "a byte behind another one's name", drawn(leaf(append([]byte{flags, 3}, other+"\x00o"...)...)), api.ErrTrie)
			refused(t, "two names of others", drawn(leaf(append([]byte{flags, 3}, other+"\x00\x00"...)...)), api.ErrTrie)
		}
	}
}

// TestEachFlags: of all flags just the kinds' may be, weak or not.
func TestEachFlags(t *testing.T) {
	may := []int{0, 2, 4, 6, 8, 12, 16, 20}
	for flags := range 1 << 12 {
		many := 0
		// What any kind has, one behind the other: at most one of them is just as long as it is said.
		for _, rest := range [][]byte{{5}, {5, 'o', 0}, {5, 5}} {
			said := append(wide(uint64(flags), 2), rest...)
			if l, err := checkAll(t, drawn(leaf(said...))); err == api.OK {
				many += len(l)
			}
			checkFind(t, drawn(leaf(said...)), "")
		}
		if is := slices.Contains(may, flags); is != (many == 1) {
			t.Errorf("flags %d: of %d kinds", flags, many)
		}
	}
	for bit := range 64 {
		for _, flags := range may {
			n := uint64(flags) | 1<<bit
			if _, err := checkAll(t, drawn(leaf(append(wide(n, 10), 5)...))); err == api.OK && n > 6 {
				t.Errorf("flags %d may be", n)
			}
		}
	}
}

// TestJustSoManyBytes: what is said is as long as it is said, neither longer nor shorter, whatever stands behind it.
func TestJustSoManyBytes(t *testing.T) {
	for _, said := range [][]byte{{0, 7}, {0, 128, 1}, {6, 255, 127}, {8, 2, 0}, {8, 2, 'a', 'b', 0}, {12, 128, 0, 0}, {16, 1, 2}, {20, 129, 1, 130, 1}} {
		for size := 1; size < 40; size++ {
			b := append(append([]byte{byte(size)}, said...), make([]byte, 60)...)
			_, err := checkAll(t, b)
			if is := size == len(said); is != (err == api.OK) {
				t.Errorf("%v as %d bytes: %v", said, size, err)
			}
			check(t, b)
			check(t, append(append([]byte{byte(size)}, said...), bytes.Repeat([]byte{1}, 60)...))
			check(t, append(append(wide(uint64(size), 1+size%10), said...), make([]byte, 60)...))
		}
	}
	for _, size := range []uint64{3, 127, 128, 1 << 31, 1 << 32, 1<<63 - 1, 1 << 63, math.MaxUint64} {
		refused(t, "as many bytes as there never are", append(wide(size, 10), 0, 7, 0), api.ErrTrie)
	}
}

func TestNumbersWithGroupsOfNothing(t *testing.T) {
	for size := 1; size <= 10; size++ {
		b := slices.Concat([]byte{0, 1, 'a', 0}, wide(uint64(4+size), size))
		said := slices.Concat(wide(20, size), wide(5, size), wide(6, size))
		b = slices.Concat(b, wide(uint64(len(said)), size), said, []byte{0})
		told(t, "wide numbers", b, api.Export{Name: "a", Kind: api.ExpStub, Weak: true, Value: 5, Resolver: 6})
	}
	refused(t, "a size of 11 bytes", append(wide(2, 11), 0, 7, 0), api.ErrTrie)
	refused(t, "a place of 11 bytes", append(append([]byte{0, 1, 'a', 0}, wide(15, 11)...), 2, 0, 7, 0), api.ErrTrie)
	refused(t, "a place beyond 2^64", append([]byte{0, 1, 'a', 0}, append(bytes.Repeat([]byte{255}, 9), 2)...), api.ErrTrie)
	refused(t, "a value beyond 2^64", append([]byte{11, 0}, append(bytes.Repeat([]byte{255}, 9), 2, 0)...), api.ErrTrie)
	refused(t, "flags beyond 2^64", append([]byte{11}, append(bytes.Repeat([]byte{128}, 9), 2, 5, 0)...), api.ErrTrie)
}

func TestEdges(t *testing.T) {
	end := leaf(0, 7)
	is := func(name string) api.Export { return api.Export{Name: name, Kind: api.ExpRegular, Value: 7} }
	long := strings.Repeat("e", 255)
	told(t, "an edge of 255 bytes", drawn(twig(kid{edge: long, node: 1}), end), is(long))
	refused(t, "an edge of 256 bytes", drawn(twig(kid{edge: long + "e", node: 1}), end), api.ErrTrie)
	lost(t, "an edge of 256 bytes", drawn(twig(kid{edge: long + "e", node: 1}), end), "x", api.ErrTrie)
	refused(t, "an edge of no bytes", drawn(twig(kid{edge: "", node: 1}), end), api.ErrTrie)
	refused(t, "a later edge of no bytes", drawn(twig(kid{edge: "a", node: 1}, kid{edge: "", node: 1}), end), api.ErrTrie)
	refused(t, "an edge that does not end", []byte{0, 1, 'a', 'b'}, api.ErrTrie)
	refused(t, "an edge without a place", []byte{0, 1, 'a', 0}, api.ErrTrie)
	refused(t, "no children's number", []byte{2, 0, 7}, api.ErrTrie)
	refused(t, "one child fewer than is said", []byte{0, 2, 'a', 0, 5, 0}, api.ErrTrie)
	told(t, "edges that do not rise", drawn(twig(kid{edge: "c", node: 1}, kid{edge: "a", node: 1}, kid{edge: "b", node: 1}), end), is("a"), is("b"), is("c"))
	for first := 1; first < 256; first++ {
		for second := 1; second < 256; second++ {
			a, b := string([]byte{byte(first), 'x'}), string([]byte{byte(second)})
			_, err := checkAll(t, drawn(twig(kid{edge: a, node: 1}, kid{edge: b, node: 1}), end))
			if (err == api.OK) != (first != second) {
				t.Fatalf("edges that begin with %d and %d: %v", first, second, err)
			}
		}
	}
	three := drawn(twig(kid{edge: "ab", node: 1}, kid{edge: "b", node: 1}, kid{edge: "ac", node: 1}), end)
	refused(t, "the first and the third begin alike", three, api.ErrTrie)
	lost(t, "the first and the third begin alike", three, "ab", api.ErrTrie)
	lost(t, "the first and the third begin alike", three, "", api.ErrTrie)
}

// TestAllChildren: a node has children of each byte that there is but 0.
func TestAllChildren(t *testing.T) {
	var kids []kid
	var want []api.Export
	for i := 255; i > 0; i-- {
		kids = append(kids, kid{edge: string([]byte{byte(i)}), node: 1})
		want = append([]api.Export{{Name: string([]byte{byte(i)}), Kind: api.ExpAbsolute, Value: 3}}, want...)
	}
	told(t, "255 children", drawn(twig(kids...), leaf(2, 3)), want...)
}

// TestFindGoesByEdges: a name is told just where it ends at a node that says something of it.
func TestFindGoesByEdges(t *testing.T) {
	b := drawn(
		twig(kid{edge: "foo", node: 1}, kid{edge: "b", node: 3}),
		sketch{[]byte{0, 1}, []kid{{edge: "bar", node: 2}}},
		leaf(2, 2),
		twig(kid{edge: "az", node: 2}),
	)
	told(t, "names", b, api.Export{Name: "baz", Kind: api.ExpAbsolute, Value: 2}, api.Export{Name: "foo", Kind: api.ExpRegular, Value: 1}, api.Export{Name: "foobar", Kind: api.ExpAbsolute, Value: 2})
	absent(t, "no names", b, "", "f", "fo", "fox", "foob", "fooba", "foobarx", "fooBar", "b", "ba", "bazz", "x", "foo\x00", "\x00", "\xff", "FOO", strings.Repeat("f", 255))
}

// TestNameAtTheRoot: the root may be a name's end, with children and without.
func TestNameAtTheRoot(t *testing.T) {
	root, a := api.Export{Kind: api.ExpRegular, Value: 1}, api.Export{Name: "a", Kind: api.ExpRegular, Value: 1}
	told(t, "the root alone", drawn(leaf(0, 1)), root)
	told(t, "the root, and a child", drawn(sketch{[]byte{0, 1}, []kid{{edge: "a", node: 1}}}, leaf(0, 1)), root, a)
	absent(t, "the root alone", drawn(leaf(0, 1)), "a")
}

// TestOnePlaceOnTwoWalks: that may be; a place that stands twice on one may not.
func TestOnePlaceOnTwoWalks(t *testing.T) {
	b := drawn(twig(kid{edge: "a", node: 1}, kid{edge: "b", node: 1}, kid{edge: "c", node: 2}), twig(kid{edge: "x", node: 2}, kid{edge: "y", node: 2}), leaf(0, 7))
	l, err := trie.All(b)
	var names []string
	for _, x := range l {
		names = append(names, x.Name)
	}
	if want := []string{"ax", "ay", "bx", "by", "c"}; !slices.Equal(names, want) || err != api.OK {
		t.Errorf("%v (%v), want %v", names, err, want)
	}
	check(t, b, "ax", "cx", "ab")
	for back := range 3 {
		round := drawn(twig(kid{edge: "a", node: 1}), sketch{[]byte{0, 1}, []kid{{edge: "b", node: 2}}}, sketch{[]byte{0, 2}, []kid{{edge: "cd", node: back}, {edge: "e", node: 3}}}, leaf(0, 3))
		refused(t, "one that goes round", round, api.ErrTrie)
		lost(t, "one that goes round", round, "abcd", api.ErrTrie)
		lost(t, "one that goes round", round, "abcdabcd", api.ErrTrie)
		absent(t, "one that goes round", round, "", "abc", "abx")
		for _, name := range []string{"a", "ab", "abe"} {
			if x, is, err := trie.Find(round, name); x.Name != name || !is || err != api.OK {
				t.Errorf("Find of %q ahead of where it goes round: %v, %v (%v)", name, x, is, err)
			}
		}
	}
}

// TestFindLooksAtItsWayAlone: what is wrong elsewhere is no error of it.
func TestFindLooksAtItsWayAlone(t *testing.T) {
	for _, wrong := range []kid{{edge: "b", far: 1 << 40}, {edge: "b", far: math.MaxUint64}, {edge: "b", node: 0}, {edge: "b", node: 2}} {
		for _, kids := range [][]kid{{wrong, {edge: "a", node: 1}}, {{edge: "a", node: 1}, wrong}} {
			b := drawn(twig(kids...), leaf(0, 7), leaf(1, 7))
			refused(t, "a wrong child", b, api.ErrTrie)
			lost(t, "a wrong child", b, "b", api.ErrTrie)
			lost(t, "a wrong child", b, "bc", api.ErrTrie)
			absent(t, "a wrong child", b, "", "ab", "c")
			if x, is, err := trie.Find(b, "a"); x.Value != 7 || !is || err != api.OK {
				t.Errorf("Find beside a wrong child: %v, %v (%v)", x, is, err)
			}
		}
	}
}

// TestPlaces: a place is in the bytes, or it is none.
func TestPlaces(t *testing.T) {
	for place := range uint64(40) {
		b := []byte{0, 1, 'a', 0, byte(place), 2, 0, 7, 0}
		_, err := checkAll(t, b)
		if is := place == 5; is != (err == api.OK) {
			t.Errorf("place %d: %v", place, err)
		}
		check(t, b)
	}
	for _, place := range []uint64{1 << 31, 1 << 32, 1<<32 + 5, 1 << 62, 1 << 63, 1<<63 + 5, math.MaxUint64 - 4, math.MaxUint64} {
		b := append(append([]byte{0, 1, 'a', 0}, wide(place, 10)...), 2, 0, 7, 0)
		refused(t, "a place beyond all", b, api.ErrTrie)
		lost(t, "a place beyond all", b, "a", api.ErrTrie)
		absent(t, "a place beyond all", b, "b")
	}
}

func TestWhatIsToldIsNewMemory(t *testing.T) {
	b := drawn(twig(kid{edge: "name", node: 1}), leaf(8, 1, 'o', 't', 'h', 'e', 'r', 0))
	want := api.Export{Name: "name", Kind: api.ExpReexport, Ordinal: 1, Other: "other"}
	l, _ := trie.All(b)
	again, _ := trie.All(b)
	x, _, _ := trie.Find(b, "name")
	again[0] = api.Export{}
	clear(b)
	if x != want || l[0] != want {
		t.Errorf("what was told changes with the bytes: %v, %v", x, l)
	}
}
