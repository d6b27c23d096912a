package trie_test

import (
	"bytes"
	"slices"
	"strings"
	"testing"

	"clevis/api"
	"clevis/trie"
)

// P9.3, P0.3 and P0.6 (what follows, within bounds, bounded), and the errors' order

// met asks that All answers so many exports, or that error.
func met(t *testing.T, what string, b []byte, many int, want api.Errno) {
	t.Helper()
	l, err := checkAll(t, b)
	if len(l) != many || err != want {
		t.Errorf("%s: %d exports (%v), want %d (%v)", what, len(l), err, many, want)
	}
}

// TestManyNodes: 8192 are met, and no more; one that is met on two walks counts twice.
func TestManyNodes(t *testing.T) {
	bare, nodes, _ := bush(1, 2, 12)
	if nodes != 8191 {
		t.Fatal(nodes)
	}
	under := func(kids ...kid) []byte {
		l := append([]sketch{twig(append([]kid{{edge: "a", node: 1}}, kids...)...)}, bare...)
		return drawn(append(l, leaf())...)
	}
	last := 1 + len(bare)
	met(t, "8191 nodes", drawn(func() []sketch { l, _, _ := bush(0, 2, 12); return l }()...), 0, api.OK)
	met(t, "8192 nodes", under(), 0, api.OK)
	met(t, "8193 nodes", under(kid{edge: "b", node: last}), 0, api.ErrMany)
	met(t, "8194 nodes", under(kid{edge: "b", node: last}, kid{edge: "c", node: last}), 0, api.ErrMany)
	met(t, "8192 nodes, and a place that is met twice", under(kid{edge: "b", node: 0}), 0, api.ErrTrie)
	met(t, "8192 nodes, and a place that is none", under(kid{edge: "b", far: 1 << 50}), 0, api.ErrMany)
	wrong := under(kid{edge: "b", node: last})
	wrong[len(wrong)-1] = 9
	met(t, "8192 nodes, and one that is wrong", wrong, 0, api.ErrMany)
	met(t, "8191 nodes, and one that is wrong", wrong[:len(wrong)-1], 0, api.ErrMany)
	for _, name := range []string{"b", "a", "aAAA", "bb"} {
		checkFind(t, under(kid{edge: "b", node: last}), name)
	}
	// Two bushes of 4095 nodes below two nodes, and then one whose name is too long.
	long := strings.Repeat("n", 200)
	half, nodes, _ := bush(2, 2, 11)
	if nodes != 4095 {
		t.Fatal(nodes)
	}
	for _, x := range []struct {
		size int
		node int
		far  uint64
		want api.Errno
	}{{55, 2, 0, api.ErrMany}, {56, 2, 0, api.ErrName}, {56, 0, 0, api.ErrName}, {55, 0, 0, api.ErrTrie}, {56, 0, 1 << 63, api.ErrName}, {55, 0, 1 << 63, api.ErrMany}} {
		third := kid{edge: strings.Repeat("o", x.size), node: x.node, far: x.far}
		l := []sketch{twig(kid{edge: long, node: 1}), twig(kid{edge: "a", node: 2}, kid{edge: "b", node: 2}, third)}
		met(t, "8192 nodes, and one of a long name", drawn(append(l, half...)...), 0, x.want)
	}
}

// TestManyNames: 4096 are told, and no more.
func TestManyNames(t *testing.T) {
	full, nodes, names := bush(1, 16, 3, 0, 7)
	if nodes != 4369 || names != 4096 {
		t.Fatal(nodes, names)
	}
	under := func(said []byte, last sketch) []byte {
		l := append([]sketch{{said, []kid{{edge: "a", node: 1}, {edge: "b", node: 1 + len(full)}}}}, full...)
		return drawn(append(l, last)...)
	}
	met(t, "4096 names", under(nil, leaf()), 4096, api.OK)
	met(t, "4097 names", under(nil, leaf(0, 7)), 0, api.ErrMany)
	met(t, "4097 names, that of the root among them", under([]byte{0, 7}, leaf()), 0, api.ErrMany)
	met(t, "4096 names, and a wrong node", under(nil, leaf(1, 7)), 0, api.ErrTrie)
	met(t, "4096 names, and one whose children are wrong", under(nil, sketch{[]byte{0, 7}, []kid{{edge: "", node: 0}}}), 0, api.ErrTrie)
	met(t, "4097 names, whose last has a wrong child", under(nil, sketch{[]byte{0, 7}, []kid{{edge: "x", node: 0}}}), 0, api.ErrMany)
	met(t, "4097 names ahead of a wrong node", under([]byte{0, 7}, leaf(1, 7)), 0, api.ErrMany)
	// Find of each name is asked of no limit of them.
	b := under(nil, leaf(0, 7))
	for _, name := range []string{"b", "aAAA", "aPPP", "aAA", "aQ"} {
		checkFind(t, b, name)
	}
	if _, is, err := trie.Find(b, "b"); !is || err != api.OK {
		t.Errorf("Find among too many: %v (%v)", is, err)
	}
}

// TestLongNames: one of 255 bytes is told, whatever it is made of; one of more is not.
func TestLongNames(t *testing.T) {
	for _, size := range []int{1, 2, 5, 15, 17, 51, 85, 127, 128, 254, 255} {
		edge := strings.Repeat("e", size)
		for many := 255/size - 1; many <= 255/size+2; many++ {
			var l []sketch
			for i := range many {
				l = append(l, twig(kid{edge: edge, node: i + 1}))
			}
			name := strings.Repeat(edge, many)
			b := drawn(append(l, leaf(0, 7))...)
			if len(name) <= 255 {
				met(t, "a name in parts", b, 1, api.OK)
				if x, is, err := checkFind(t, b, name); x.Name != name || !is || err != api.OK {
					t.Errorf("Find of %d bytes: %v (%v)", len(name), is, err)
				}
			} else {
				met(t, "a longer name in parts", b, 0, api.ErrName)
				lost(t, "a longer name in parts", b, name, api.ErrName)
				checkFind(t, b, name[:255])
			}
		}
	}
	// A name that is too long is told ahead of whatever else is wrong with its node.
	long := strings.Repeat("n", 250)
	for _, wrong := range []kid{{edge: "nnnnnn", far: 1 << 40}, {edge: "nnnnnn", node: 0}, {edge: "nnnnnn", node: 2}, {edge: "nnnnnn", node: 3}} {
		b := drawn(twig(kid{edge: long, node: 1}), twig(wrong), leaf(1, 7), leaf())
		met(t, "a long name of a wrong node", b, 0, api.ErrName)
		lost(t, "a long name of a wrong node", b, long+"nnnnnn", api.ErrName)
		absent(t, "a long name of a wrong node", b, long, long+"nnnnn")
	}
}

// TestFindOfLongNames is refused ahead of all that is wrong with bytes.
func TestFindOfLongNames(t *testing.T) {
	for _, b := range [][]byte{nil, {}, {0}, {0, 0}, {9}, {0, 1, 'a', 0, 0}, {2, 1, 7, 0}} {
		for _, size := range []int{256, 257, 1000, 1 << 20} {
			lost(t, "a long name", b, strings.Repeat("a", size), api.ErrName)
		}
		checkFind(t, b, strings.Repeat("a", 255))
	}
}

// TestTheFirstThatIsMet: of two wrong children the one that stands first tells the error, and what stands below it is met ahead of its sibling.
func TestTheFirstThatIsMet(t *testing.T) {
	long := strings.Repeat("n", 255)
	name := kid{edge: "n", node: 1}
	bad := kid{edge: "b", node: 3}
	l := []sketch{twig(), twig(kid{edge: long, node: 2}), leaf(0, 7), leaf(1, 7), twig(bad)}
	for _, x := range []struct {
		kids []kid
		want api.Errno
	}{
		{[]kid{name, bad}, api.ErrName},
		{[]kid{bad, name}, api.ErrTrie},
		{[]kid{{edge: "x", node: 4}, name}, api.ErrTrie},
		{[]kid{name, {edge: "x", node: 4}}, api.ErrName},
		{[]kid{name, {edge: "n", node: 2}}, api.ErrTrie}, // the root is no node as it is said, and is met first
	} {
		l[0] = twig(x.kids...)
		met(t, "two that are wrong", drawn(l...), 0, x.want)
	}
}

// TestTriesThatGoRound end, however many walks there are.
func TestTriesThatGoRound(t *testing.T) {
	for fan := 1; fan <= 4; fan++ {
		for depth := 1; depth <= 9; depth++ {
			l, _, _ := bush(0, fan, depth)
			for back := range depth {
				// Only the last child of each node goes on: ahead of it all is met.
				for i := range l[:depth] {
					for k := range fan - 1 {
						l[i].kids[k].node = depth
					}
				}
				l[depth-1].kids[fan-1].node = back
				met(t, "one that goes round", drawn(l...), 0, api.ErrTrie)
				for size := range 20 {
					checkFind(t, drawn(l...), strings.Repeat(string(rune('A'+fan-1)), size))
				}
			}
		}
	}
}

// TestManyWalks: so few bytes have more walks than could ever be gone over.
func TestManyWalks(t *testing.T) {
	for _, fan := range []int{2, 3, 60} {
		l, _, _ := bush(0, fan, 255, 0, 7)
		b := drawn(l...)
		met(t, "many walks", b, 0, api.ErrMany)
		if _, is, err := trie.Find(b, strings.Repeat("B", 255)); !is || err != api.OK {
			t.Errorf("Find of one of many: %v (%v)", is, err)
		}
		absent(t, "many walks", b, "", strings.Repeat("A", 254), strings.Repeat("A", 254)+"!")
	}
	l, _, _ := bush(0, 2, 256, 0, 7)
	met(t, "many long walks", drawn(l...), 0, api.ErrName)
}

// TestFatNodes: of as many children as can be, edges as long as can be, one below the other.
func TestFatNodes(t *testing.T) {
	var l []sketch
	for depth := range 255 {
		kids := []kid{{edge: "\xff", node: depth + 1}}
		for first := byte(1); first < 255; first++ {
			kids = append(kids, kid{edge: string([]byte{first}) + strings.Repeat("x", 100), node: 255})
		}
		l = append(l, twig(kids...))
	}
	b := drawn(append(l, leaf(0, 7))...)
	// The deepest one that has long edges has names beyond 255 bytes.
	met(t, "fat nodes", b, 0, api.ErrName)
	if _, is, err := trie.Find(b, strings.Repeat("\xff", 255)); !is || err != api.OK {
		t.Errorf("Find along fat nodes: %v (%v)", is, err)
	}
}

// whole is a trie of all kinds, made.
func whole(t testing.TB) ([]byte, []api.Export) {
	t.Helper()
	l := []api.Export{
		{Name: "_a", Kind: api.ExpRegular, Value: 0x1000},
		{Name: "_ab", Kind: api.ExpAbsolute, Value: 1 << 40, Weak: true},
		{Name: "_b", Kind: api.ExpReexport, Ordinal: 300, Other: "_c"},
		{Name: "_bcd", Kind: api.ExpReexport, Ordinal: 1, Weak: true},
		{Name: "_bce", Kind: api.ExpStub, Value: 300, Resolver: 5},
		{Name: "z", Kind: api.ExpRegular, Weak: true},
	}
	b, err := trie.Make(l...)
	if err != api.OK {
		t.Fatal(err)
	}
	return b, l
}

func TestCutShort(t *testing.T) {
	b, l := whole(t)
	told(t, "all of it", b, l...)
	for n := range b {
		check(t, b[:n], "_a", "_ab", "_b", "_bcd", "_bce", "z")
		check(t, b[:n:n])
		check(t, b[n:], "_a", "_ab", "_b", "_bcd", "_bce", "z")
		if _, err := trie.All(b[:n]); (err == api.OK) != (n == 0) {
			t.Errorf("%d bytes: %v", n, err)
		}
	}
	// What stands behind a trie's nodes belongs to nothing.
	told(t, "bytes behind", append(slices.Clone(b), 255, 255, 0), l...)
}

func TestOneByteChanged(t *testing.T) {
	b, _ := whole(t)
	for i := range b {
		for v := range 256 {
			wrong := bytes.Clone(b)
			wrong[i] = byte(v)
			check(t, wrong, "_a", "_ab", "_b", "_bcd", "_bce", "z", "_")
		}
	}
}

func TestOneByteGoneOrMore(t *testing.T) {
	b, _ := whole(t)
	for i := range b {
		check(t, slices.Delete(bytes.Clone(b), i, i+1), "_a", "_bce", "z")
		for _, v := range []byte{0, 1, 2, 4, 8, 16, 64, 127, 128, 255} {
			check(t, slices.Insert(bytes.Clone(b), i, v), "_a", "_bce", "z")
		}
	}
}

// TestAllShortRows: all rows of at most six bytes of some.
func TestAllShortRows(t *testing.T) {
	some := []byte{0, 1, 2, 3, 4, 8, 'a', 128}
	var row []byte
	var longer func()
	longer = func() {
		checkAll(t, row)
		checkFind(t, row, "")
		checkFind(t, row, "a")
		checkFind(t, row, "\x01\x01")
		if len(row) == 6 {
			return
		}
		for _, v := range some {
			row = append(row, v)
			longer()
			row = row[:len(row)-1]
		}
	}
	longer()
}

// TestPairsOfNodes: all pairs of two nodes with few bytes, whose children stand anywhere.
func TestPairsOfNodes(t *testing.T) {
	fronts := [][]byte{{0}, {2, 0, 7}, {2, 4, 1}, {2, 3, 7}, {3, 8, 1, 0}, {1, 0}}
	var tails [][]byte
	tails = append(tails, []byte{0}, []byte{1, 'a', 0}, []byte{1, 0, 0})
	for place := range byte(12) {
		tails = append(tails, []byte{1, 'a', 0, place}, []byte{1, 'b', 0, place})
	}
	for _, a := range fronts {
		for _, b := range tails {
			for _, c := range fronts {
				for _, d := range tails {
					row := slices.Concat(a, b, c, d)
					checkAll(t, row)
					for _, name := range []string{"a", "b", "ab", "ba", "aaa"} {
						checkFind(t, row, name)
					}
				}
			}
		}
	}
}

// TestManyBytes: any bytes, as many as a file has and more.
func TestManyBytes(t *testing.T) {
	for _, v := range []byte{0, 1, 127, 128, 129, 255} {
		b := bytes.Repeat([]byte{v}, 1<<22)
		checkAll(t, b)
		checkFind(t, b, "a")
		checkFind(t, b, strings.Repeat(string([]byte{v}), 255))
	}
	b := append(drawn(twig(kid{edge: "a", far: 1 << 22})), make([]byte, 1<<22+1000)...)
	copy(b[1<<22:], []byte{2, 0, 7, 0})
	told(t, "a node far behind", b, api.Export{Name: "a", Kind: api.ExpRegular, Value: 7})
}

func FuzzRead(f *testing.F) {
	b, l := whole(f)
	for _, x := range l {
		f.Add(b, x.Name)
	}
	f.Add([]byte{0, 1, 'a', 0, 0}, "aa")
	f.Add([]byte{0, 2, 'a', 0, 8, 'b', 0, 8, 2, 0, 1, 0}, "b")
	many, _, _ := bush(0, 2, 14, 0, 7)
	f.Add(drawn(many...), "AB")
	f.Fuzz(func(t *testing.T, b []byte, name string) {
		check(t, b, name)
	})
}
