package export_test

import (
	"bytes"
	"math"
	"slices"
	"strings"
	"testing"

	"clevis/api"
	"clevis/export"
	"clevis/image"
)

// P0.3 (within bounds)

// whole are fine's slices of a trie, and of a table, of all kinds.
func whole(t testing.TB) (tree, table, names []byte) {
	t.Helper()
	tree = madeTrie(t, regular("a", 5), weakly(absolute("ab", 1<<40)), reexport("ac", 2, "other"), reexport("b", 1, ""), stub("bc", 1, fineLong-1))
	table, names = madeTable(t, api.Symbol{Name: "_b", Section: 1, Value: fineLow}, api.Symbol{Name: "_a", Value: 7, Weak: true}, api.Symbol{Name: "_c", Section: fineSections, Value: fineLow + fineLong - 1, Weak: true})
	return tree, table, names
}

// checkAny asks all that holds of any bytes.
func checkAny(t *testing.T, tree, table, names []byte) {
	t.Helper()
	slice, m := fine(tree, table, names)
	check(t, slice, m, "a", "ab", "bc", "_a", "_c")
	// Without what stands ahead of these bytes.
	slice, m = wild(tree, table, names, m.Segments...)
	check(t, slice, m, "ac", "_b")
}

func TestCutShort(t *testing.T) {
	tree, table, names := whole(t)
	for n := range len(tree) + 1 {
		checkAny(t, tree[:n], table, names)
		checkAny(t, tree[n:], nil, nil)
	}
	for n := range len(table) + 1 {
		checkAny(t, nil, table[:n], names)
		checkAny(t, nil, table[n:], names)
	}
	for n := range len(names) + 1 {
		checkAny(t, nil, table, names[:n])
		checkAny(t, nil, table, names[n:])
	}
	// The slice ends ahead of where the image says.
	for _, l := range [][3][]byte{{tree, table, names}, {nil, table, names}, {tree, nil, nil}} {
		slice, m := fine(l[0], l[1], l[2])
		for n := len(slice); n >= fineFile-1; n-- {
			check(t, slice[:n], m, "a", "_a")
			check(t, slice[:n:n], m, "a", "_a")
		}
		check(t, nil, m)
	}
}

func TestOneByteChanged(t *testing.T) {
	tree, table, names := whole(t)
	values := []byte{0, 1, 2, 3, 4, 6, 7, 8, 9, 15, 16, 24, 0x7F, 0x80, 0xFE, 0xFF, 'a', '_'}
	for i := range tree {
		for _, v := range append(values, tree[i]+1, tree[i]-1) {
			wrong := bytes.Clone(tree)
			wrong[i] = v
			checkAny(t, wrong, nil, nil)
		}
	}
	for i := range table {
		for _, v := range append(values, table[i]+1, table[i]-1) {
			wrong := bytes.Clone(table)
			wrong[i] = v
			checkAny(t, nil, wrong, names)
		}
	}
	for i := range names {
		for _, v := range values {
			wrong := bytes.Clone(names)
			wrong[i] = v
			checkAny(t, nil, table, wrong)
		}
	}
}

func TestOneByteGoneOrMore(t *testing.T) {
	tree, table, names := whole(t)
	for i := range tree {
		checkAny(t, slices.Delete(bytes.Clone(tree), i, i+1), table, names)
		checkAny(t, slices.Insert(bytes.Clone(tree), i, 1), table, names)
	}
	for i := range table {
		checkAny(t, nil, slices.Delete(bytes.Clone(table), i, i+1), names)
		checkAny(t, nil, slices.Insert(bytes.Clone(table), i, make([]byte, 16)...), names)
	}
	for i := range names {
		checkAny(t, nil, table, slices.Delete(bytes.Clone(names), i, i+1))
		checkAny(t, nil, table, slices.Insert(bytes.Clone(names), i, 0))
	}
}

// TestExtremes: the numbers of segments and spans are as great as can be, or as small.
func TestExtremes(t *testing.T) {
	tree, table, names := whole(t)
	slice := slices.Concat(tree, table, names)
	ends := []uint64{0, 1, uint64(len(tree)), fineLow, 1 << 63, math.MaxUint64 - 1, math.MaxUint64}
	for _, first := range ends {
		for _, second := range ends {
			m := api.Image{Segments: []api.Segment{{Addr: first, Size: second, Prot: 1, Sections: make([]api.Section, 6)}}, Deps: make([]api.Dep, 2)}
			m.Trie.Size = uint64(len(tree))
			check(t, slice, m, "ab")
			m.Trie = api.Span{Off: first, Size: second}
			check(t, slice, m, "ab")
			m.Trie, m.Symbols, m.Strings = api.Span{}, api.Span{Off: uint64(len(tree)), Size: uint64(len(table))}, api.Span{Off: uint64(len(tree) + len(table)), Size: uint64(len(names))}
			check(t, slice, m, "_a")
			m.Strings = api.Span{Off: first, Size: second}
			check(t, slice, m, "_a")
			m.Symbols = m.Strings
			check(t, slice, m, "_a")
			for _, third := range ends {
				m.Segments = append(m.Segments[:1:1], api.Segment{Addr: second, Size: third, Prot: int(third)})
				check(t, slice, m, "_a")
			}
		}
	}
}

// TestManyBytes: as many as a file has, and more; and an image of many segments.
func TestManyBytes(t *testing.T) {
	for _, v := range []byte{0, 1, 2, 15, 255} {
		b := bytes.Repeat([]byte{v}, 1<<20)
		for _, l := range [][3][]byte{{b, nil, nil}, {nil, b, nil}, {nil, b, b}} {
			slice, m := wild(l[0], l[1], l[2], api.Segment{Size: 4096, Prot: 1})
			check(t, slice, m)
		}
		m := api.Image{Trie: api.Span{Size: 1 << 20}, Symbols: api.Span{Size: 1 << 20}, Strings: api.Span{Size: 1 << 20}}
		check(t, b, m)
		m.Trie.Size = 0
		check(t, b, m)
	}
	var l []api.Export
	for i := range 4096 {
		l = append(l, regular(strings.Repeat("x", 1+i/256)+string([]byte{byte(1 + i/16%16), byte(1 + i%16)}), uint64(i)))
	}
	segments := make([]api.Segment, 1<<18)
	segments[0] = api.Segment{Size: 4096, Prot: 1}
	slice, m := wild(madeTrie(t, l...), nil, nil, segments...)
	checkAll(t, slice, api.Image{Trie: m.Trie, Segments: m.Segments[:1]})
	if l, err := export.All(slice, m); len(l) != 4096 || err != api.OK {
		t.Errorf("%d (%v)", len(l), err)
	}
}

func FuzzExports(f *testing.F) {
	tree, table, names := whole(f)
	f.Add(tree, table, names, uint64(fineLow), uint64(0x2000), "ab", uint64(0))
	f.Add([]byte{}, table, names, uint64(fineLow), uint64(fineLong), "_a", uint64(1<<64-fineLow))
	f.Add([]byte{}, table, names, uint64(1<<64-0x1000), uint64(1<<20), "_c", uint64(7))
	f.Add([]byte{0, 1, 'a', 0, 0}, table, names, uint64(1), uint64(1), "a", uint64(1))
	f.Fuzz(func(t *testing.T, tree, table, names []byte, addr, size uint64, name string, slide uint64) {
		checkAny(t, tree, table, names)
		slice, m := wild(tree, table, names, api.Segment{Addr: addr, Size: size, Prot: 3, Sections: make([]api.Section, slide%8)}, api.Segment{Addr: slide, Size: addr, Sections: make([]api.Section, 1)})
		m.Deps = make([]api.Dep, size%4)
		l, _ := check(t, slice, m, name)
		for _, x := range l {
			checkAt(t, m, x, slide)
		}
	})
}

func FuzzImages(f *testing.F) {
	tree, table, names := whole(f)
	f.Add(filed(f, tree, nil, nil))
	f.Add(filed(f, nil, table, names))
	f.Fuzz(func(t *testing.T, slice []byte) {
		if m, err := image.Of(slice); err == api.OK {
			check(t, slice, m, "ab", "_a")
		}
	})
}
