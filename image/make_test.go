package image_test

import (
	"encoding/binary"
	"math"
	"testing"

	"clevis/api"
	"clevis/command"
)

// Images, and their bytes, put together.

const (
	fineSlice = 0x1D30 // how many bytes fine's slice has: just up to where its last segment's bytes end
	fineHead  = 0x1000
	fineLow   = 0x10000
	fineHigh  = 0x21000
)

// The places of fine's segments.
const (
	zero = iota
	text
	gap
	data
	bss
	link
)

// fine is an Exec that may be, of a slice of fineSlice bytes: it has holes, too, and a gap without any segment.
func fine() api.Image {
	return api.Image{
		Kind: api.Exec, Flags: 0x85,
		Segments: []api.Segment{
			zero: {Name: "__PAGEZERO", Size: fineLow},
			text: {Name: "__TEXT", Addr: fineLow, Size: 0x2000, FileSize: 0x1800, Prot: 5, Sections: []api.Section{
				{Name: "__text", Segment: "__TEXT", Addr: 0x10800, Size: 0x100, Off: 0x800},
				{Name: "__none", Segment: "__TEXT", Addr: 0x11800, Off: 0x1800},
				{Name: "__zero", Segment: "__TEXT", Addr: 0x11900, Size: 0x700, Off: 0x99, Kind: api.KindZero},
			}},
			gap: {Name: "gap", Addr: 0x12000, Size: 0x1000, Off: 9},
			data: {Name: "__DATA", Addr: 0x14000, Size: 0x3000, Off: 0x1900, FileSize: 0x123, Prot: 3, Sections: []api.Section{
				{Name: "__inits", Segment: "__DATA", Addr: 0x14008, Size: 0x10, Off: 0x1908, Kind: api.KindInits},
			}},
			bss:  {Name: "__BSS", Addr: 0x17000, Size: 0x1000, Prot: 3},
			link: {Name: "__LINKEDIT", Addr: 0x20000, Size: 0x1000, Off: 0x1A30, FileSize: 0x300, Prot: 1},
		},
		Deps:   []api.Dep{{Name: "/lib/b", Kind: api.DepLoad}},
		Rebase: api.Span{Off: 0x1A30, Size: 0x10}, Bind: api.Span{Off: 0x1A40, Size: 0x20}, Weak: api.Span{Off: 0x1A60, Size: 1}, Lazy: api.Span{Off: 0x1A61, Size: 3},
		Trie: api.Span{Off: 0x1A64, Size: 0x80}, Chains: api.Span{Off: fineSlice}, Symbols: api.Span{Off: 0x1B00, Size: 0x20}, Strings: api.Span{Off: 0x1B20, Size: 0x210},
		Entry: 0x808, HasEntry: true,
	}
}

// lib is a Dylib that may be, of a slice of 5000 bytes.
func lib() api.Image {
	return api.Image{
		Kind: api.Dylib, Name: "/a",
		Segments: []api.Segment{
			{Name: "__TEXT", Size: 4096, FileSize: 4096, Prot: 5},
			{Name: "__DATA", Addr: 4096, Size: 8192, Off: 4096, FileSize: 904, Prot: 3},
		},
	}
}

// changed is fine, but for that.
func changed(l ...func(*api.Image)) api.Image {
	m := fine()
	for _, change := range l {
		change(&m)
	}
	return m
}

// laid is an image of these segments alone.
func laid(l ...api.Segment) api.Image {
	return api.Image{Kind: api.Exec, Segments: l}
}

// wild are segments that no image may have, together with some that it may.
func wild() []api.Segment {
	return []api.Segment{
		{Name: "a", Addr: 0x1000, Size: 0x1000, FileSize: 24, Prot: 3},
		{Name: "hole", Addr: 0x800, Size: 0x2000},
		{Name: "within a", Addr: 0x1008, Size: 16, Off: 3, FileSize: 16, Prot: 5},
		{Name: "over a", Addr: 0xFF8, Size: 0x1010, Off: 40, FileSize: 9, Prot: 6},
		{Name: "up to 2^64", Addr: 1<<64 - 0x1000, Size: 0x1000, FileSize: 32, Prot: 7},
		{Name: "beyond 2^64", Addr: 1<<64 - 0x18, Size: 0x40, Off: 1, FileSize: 0x30, Prot: 2},
		{Name: "all", Size: math.MaxUint64, FileSize: 64, Prot: 1},
		{Name: "all but 0", Addr: 1, Size: math.MaxUint64, FileSize: 65, Prot: 10},
		{Name: "none", Addr: 0x1004, Prot: 3},
		{Name: "FileSize above Size", Addr: 0x1FFC, Size: 12, Off: 20, FileSize: 20, Prot: -1},
		{Name: "bytes that there are not", Addr: 0x2000, Size: 32, Off: math.MaxUint64, FileSize: 2, Prot: 3},
		{Name: "too many bytes", Addr: 0x2010, Size: 32, Off: 60, FileSize: 5, Prot: 0},
	}
}

// numbered are so many bytes, one unlike the next.
func numbered(size int) []byte {
	b := make([]byte, size)
	for i := range b {
		b[i] = byte(i*7 + i/256 + 1)
	}
	return b
}

// says are numbers and bytes, one behind the other.
func says(t testing.TB, l ...any) []byte {
	t.Helper()
	var b []byte
	for _, x := range l {
		var err error
		if b, err = binary.Append(b, binary.LittleEndian, x); err != nil {
			t.Fatal(err)
		}
	}
	return b
}

// padded is a name of 16 bytes.
func padded(s string) [16]byte {
	var b [16]byte
	copy(b[:], s)
	return b
}

// short are a span's two numbers.
func short(s api.Span, unit uint64) [2]uint32 {
	return [2]uint32{uint32(s.Off), uint32(s.Size / unit)}
}

func segmentSays(t testing.TB, s api.Segment) []byte {
	t.Helper()
	b := says(t, padded(s.Name), [4]uint64{s.Addr, s.Size, s.Off, s.FileSize}, [4]uint32{7, uint32(s.Prot), uint32(len(s.Sections)), 0})
	for _, x := range s.Sections {
		b = append(b, says(t, padded(x.Name), padded(x.Segment), [2]uint64{x.Addr, x.Size}, [8]uint32{uint32(x.Off), 4: uint32(x.Kind)})...)
	}
	return b
}

// sliceOf is an image's slice: its header, its commands, and other bytes up to a size.
func sliceOf(t testing.TB, m api.Image, size int) []byte {
	t.Helper()
	var l []api.Command
	add := func(cmd uint32, says []byte) {
		c, err := command.One(cmd, says)
		if err != api.OK {
			t.Fatal(err)
		}
		l = append(l, c)
	}
	named := func(cmd uint32, name string) { add(cmd, says(t, [4]uint32{24}, []byte(name), byte(0))) }
	for _, s := range m.Segments {
		add(0x19, segmentSays(t, s))
	}
	if m.Name != "" {
		named(0xD, m.Name)
	}
	for _, d := range m.Deps {
		named(map[api.DepKind]uint32{api.DepLoad: 0xC, api.DepWeak: 0x80000018, api.DepReexport: 0x8000001F, api.DepUpward: 0x80000023}[d.Kind], d.Name)
	}
	add(0x80000022, says(t, short(m.Rebase, 1), short(m.Bind, 1), short(m.Weak, 1), short(m.Lazy, 1), short(m.Trie, 1)))
	add(0x80000034, says(t, short(m.Chains, 1)))
	add(2, says(t, short(m.Symbols, 16), short(m.Strings, 1)))
	if m.HasEntry {
		add(0x80000028, says(t, m.Entry, uint64(0)))
	}
	front, err := command.Make(api.Head{Sub: m.Sub, Kind: m.Kind, Flags: m.Flags}, l...)
	if err != api.OK {
		t.Fatal(err)
	}
	b := numbered(max(size, len(front)))
	copy(b, front)
	return b[:size]
}
