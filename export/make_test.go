package export_test

import (
	"encoding/binary"
	"slices"
	"strings"
	"testing"

	"clevis/api"
	"clevis/command"
	"clevis/image"
	"clevis/nlist"
	"clevis/trie"
)

// Images, and their bytes, put together.

const (
	fineFile     = 0x1800 // how many bytes of fine's slice stand ahead of its trie
	fineLow      = 0x10000
	fineSections = 6
)

// fine is an Exec of these bytes as a trie, a table and strings, and its slice. It has a hole, whose section counts, and a gap; two dependencies.
func fine(tree, table, names []byte) ([]byte, api.Image) {
	bytes := slices.Concat(make([]byte, fineFile), tree, table, names)
	size := (uint64(len(bytes)) + 0xFFF) &^ 0xFFF
	m := api.Image{
		Kind: api.Exec, Flags: api.FlagTwoLevel,
		Segments: []api.Segment{
			{Name: "__PAGEZERO", Size: fineLow, Sections: []api.Section{{Name: "zero", Segment: "__PAGEZERO", Kind: api.KindZero}}},
			{Name: "__TEXT", Addr: fineLow, Size: 0x2000, FileSize: 0x1000, Prot: 5, Sections: []api.Section{
				{Name: "__text", Segment: "__TEXT", Addr: 0x10800, Size: 0x100, Off: 0x800},
				{Name: "__const", Segment: "__TEXT", Addr: 0x10900, Size: 0x700, Off: 0x900},
			}},
			{Name: "__DATA", Addr: 0x14000, Size: 0x2000, Off: 0x1000, FileSize: 0x800, Prot: 3, Sections: []api.Section{
				{Name: "__a", Segment: "__DATA", Addr: 0x14000, Size: 8, Off: 0x1000},
				{Name: "__b", Segment: "__DATA", Addr: 0x14008, Size: 8, Off: 0x1008},
				{Name: "__c", Segment: "__DATA", Addr: 0x15000, Size: 0x1000, Kind: api.KindZero},
			}},
			{Name: "__LINKEDIT", Addr: 0x20000, Size: size, Off: fineFile, FileSize: uint64(len(bytes)) - fineFile, Prot: 1},
		},
		Deps: []api.Dep{{Name: "/lib/x", Kind: api.DepLoad}, {Name: "/lib/y", Kind: api.DepReexport}},
	}
	m.Trie = api.Span{Off: fineFile, Size: uint64(len(tree))}
	m.Symbols = api.Span{Off: m.Trie.Off + m.Trie.Size, Size: uint64(len(table))}
	m.Strings = api.Span{Off: m.Symbols.Off + m.Symbols.Size, Size: uint64(len(names))}
	return bytes, m
}

// fineLong is how long fine is, as long as its last segment has one page of bytes at most behind its other ones' (0x1800 and 0x800).
const fineLong = 0x20000 + 0x2000 - fineLow

// ofTrie is fine of a trie of these exports alone.
func ofTrie(t testing.TB, l ...api.Export) ([]byte, api.Image) {
	t.Helper()
	return fine(madeTrie(t, l...), nil, nil)
}

// ofTable is fine of a table of these symbols alone.
func ofTable(t testing.TB, l ...api.Symbol) ([]byte, api.Image) {
	t.Helper()
	table, names := madeTable(t, l...)
	return fine(nil, table, names)
}

func madeTrie(t testing.TB, l ...api.Export) []byte {
	t.Helper()
	b, err := trie.Make(l...)
	if err != api.OK {
		t.Fatal(err)
	}
	return b
}

func madeTable(t testing.TB, l ...api.Symbol) ([]byte, []byte) {
	t.Helper()
	table, names, err := nlist.Make(l...)
	if err != api.OK {
		t.Fatal(err)
	}
	return table, names
}

// may asks that an image may be, of its slice.
func may(t testing.TB, slice []byte, m api.Image) {
	t.Helper()
	if err := image.May(m, uint64(len(slice)), 0x400); err != api.OK {
		t.Fatalf("the image may not be: %v", err)
	}
}

// wild is an image of these segments, which none may have, of a trie and a table in a slice without anything else.
func wild(tree, table, names []byte, l ...api.Segment) ([]byte, api.Image) {
	m := api.Image{Segments: l}
	m.Trie.Size = uint64(len(tree))
	m.Symbols = api.Span{Off: m.Trie.Size, Size: uint64(len(table))}
	m.Strings = api.Span{Off: m.Trie.Size + m.Symbols.Size, Size: uint64(len(names))}
	return slices.Concat(tree, table, names), m
}

// regular, absolute, reexport and stub are exports of these kinds.
func regular(name string, value uint64) api.Export {
	return api.Export{Name: name, Kind: api.ExpRegular, Value: value}
}

func absolute(name string, value uint64) api.Export {
	return api.Export{Name: name, Kind: api.ExpAbsolute, Value: value}
}

func reexport(name string, ordinal uint64, other string) api.Export {
	return api.Export{Name: name, Kind: api.ExpReexport, Ordinal: ordinal, Other: other}
}

func stub(name string, value, resolver uint64) api.Export {
	return api.Export{Name: name, Kind: api.ExpStub, Value: value, Resolver: resolver}
}

func weakly(x api.Export) api.Export {
	x.Weak = true
	return x
}

// filed is a slice that image.Of takes: fine's, its header and commands at its front.
func filed(t testing.TB, tree, table, names []byte) []byte {
	t.Helper()
	b, m := fine(tree, table, names)
	var l []api.Command
	add := func(cmd uint32, says ...any) {
		var b []byte
		for _, x := range says {
			b, _ = binary.Append(b, binary.LittleEndian, x)
		}
		c, err := command.One(cmd, b)
		if err != api.OK {
			t.Fatal(err)
		}
		l = append(l, c)
	}
	for _, s := range m.Segments {
		says := []any{field(s.Name), [4]uint64{s.Addr, s.Size, s.Off, s.FileSize}, [4]uint32{7, uint32(s.Prot), uint32(len(s.Sections)), 0}}
		for _, x := range s.Sections {
			says = append(says, field(x.Name), field(x.Segment), [2]uint64{x.Addr, x.Size}, [8]uint32{uint32(x.Off), 4: uint32(x.Kind)})
		}
		add(0x19, says...)
	}
	add(0xC, [4]uint32{24}, []byte("/lib/x\x00"))
	add(0x8000001F, [4]uint32{24}, []byte("/lib/y\x00"))
	add(0x80000022, [10]uint32{8: uint32(m.Trie.Off), 9: uint32(m.Trie.Size)})
	add(2, [4]uint32{uint32(m.Symbols.Off), uint32(m.Symbols.Size / 16), uint32(m.Strings.Off), uint32(m.Strings.Size)})
	front, err := command.Make(api.Head{Kind: m.Kind, Flags: m.Flags}, l...)
	if err != api.OK || len(front) > 0x800 {
		t.Fatal(err, len(front))
	}
	copy(b, front)
	return b
}

// field is a name of 16 bytes.
func field(s string) []byte {
	return []byte(s + strings.Repeat("\x00", 16-len(s)))
}
