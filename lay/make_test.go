package lay_test

import (
	"encoding/binary"
	"math"
	"testing"

	"clevis/api"
	"clevis/command"
	"clevis/space"
)

// Images, their bytes, and spaces, put together.

const (
	fineSlice = 0x1D30 // how many bytes fine's slice has
	fineLow   = 0x10000
	fineHigh  = 0x21000
	fineSolid = 7 // pages that are laid of fine
)

// fine is an Exec that may be, of a slice of fineSlice bytes: it has holes, too, and gaps without any segment.
func fine() api.Image {
	return api.Image{
		Kind: api.Exec, Flags: 0x85,
		Segments: []api.Segment{
			{Name: "__PAGEZERO", Size: fineLow},
			{Name: "__TEXT", Addr: fineLow, Size: 0x2000, FileSize: 0x1800, Prot: 5},
			{Name: "gap", Addr: 0x12000, Size: 0x1000, Off: 9},
			{Name: "__DATA", Addr: 0x14000, Size: 0x3000, Off: 0x1900, FileSize: 0x123, Prot: 3},
			{Name: "__BSS", Addr: 0x17000, Size: 0x1000, Prot: 3},
			{Name: "__LINKEDIT", Addr: 0x20000, Size: 0x1000, Off: 0x1A30, FileSize: 0x300, Prot: 1},
			{Name: "behind", Addr: 0x22000, Size: 0x1000},
		},
	}
}

// lib is a Dylib that may be, of a slice of 5000 bytes.
func lib() api.Image {
	return api.Image{
		Kind: api.Dylib, Name: "/a",
		Segments: []api.Segment{
			{Name: "__TEXT", Size: 4096, FileSize: 4096, Prot: 5},
			{Name: "__DATA", Addr: 4096, Size: 8192, Off: 4096, FileSize: 904, Prot: 3},
		},
	}
}

// of is an image of a kind and flags, with segments from low on that are so long.
func of(kind api.ImageKind, flags uint32, low uint64, sizes ...uint64) api.Image {
	m := api.Image{Kind: kind, Flags: flags}
	for i, n := range sizes {
		m.Segments = append(m.Segments, api.Segment{Name: string(rune('a' + i)), Addr: low, Size: n, Prot: 5})
		low += n
	}
	return m
}

// only is an image of these segments alone.
func only(l ...api.Segment) api.Image {
	return api.Image{Kind: api.Dylib, Segments: l}
}

// numbered are so many bytes, none of them 0, one unlike the next.
func numbered(n int) []byte {
	b := make([]byte, n)
	for i := range b {
		b[i] = byte(i%251 + 1 + i/251%4)
	}
	return b
}

// says are numbers and bytes, one behind the other.
func says(t testing.TB, l ...any) []byte {
	t.Helper()
	var b []byte
	for _, x := range l {
		var err error
		if b, err = binary.Append(b, binary.LittleEndian, x); err != nil {
			t.Fatal(err)
		}
	}
	return b
}

// padded is a name of 16 bytes.
func padded(s string) [16]byte {
	var b [16]byte
	copy(b[:], s)
	return b
}

// sliceOf is an image's slice: its header, its commands (segments, and a name), and other bytes up to a size.
func sliceOf(t testing.TB, m api.Image, n int) []byte {
	t.Helper()
	var l []api.Command
	add := func(cmd uint32, says []byte) {
		c, err := command.One(cmd, says)
		if err != api.OK {
			t.Fatal(err)
		}
		l = append(l, c)
	}
	for _, s := range m.Segments {
		add(0x19, says(t, padded(s.Name), [4]uint64{s.Addr, s.Size, s.Off, s.FileSize}, [4]uint32{7, uint32(s.Prot)}))
	}
	if m.Name != "" {
		add(0xD, says(t, [4]uint32{24}, []byte(m.Name), byte(0)))
	}
	front, err := command.Make(api.Head{Sub: m.Sub, Kind: m.Kind, Flags: m.Flags}, l...)
	if err != api.OK {
		t.Fatal(err)
	}
	b := numbered(max(n, len(front)))
	copy(b, front)
	return b[:n]
}

// mapped is a space with one page at each of these addresses, of a protection that is told by its number in the row, filled.
func mapped(t testing.TB, at ...uint64) *space.Space {
	t.Helper()
	s := space.New()
	for i, n := range at {
		if err := s.Map(n, size, i%7+1); err != api.OK {
			t.Fatal(err)
		}
		s.Fill(n, numbered(size))
	}
	return s
}

// filled is a space of so many pages, all below MaxAddress, none below its half.
func filled(t testing.TB, pages uint64) *space.Space {
	t.Helper()
	s := space.New()
	if pages > 0 {
		if err := s.Map(top-pages*size, pages*size, 7); err != api.OK {
			t.Fatal(err)
		}
	}
	return s
}

// wild are segments that no image may have, together with some that it may.
func wild() []api.Segment {
	return []api.Segment{
		{Name: "a", Addr: 0x1000, Size: 0x1000, FileSize: 24, Prot: 3},
		{Name: "hole", Addr: 0x800, Size: 0x2000},
		{Name: "within a", Addr: 0x1008, Size: 16, Off: 3, FileSize: 16, Prot: 5},
		{Name: "over a", Addr: 0xFF8, Size: 0x1010, Off: 40, FileSize: 9, Prot: 6},
		{Name: "beside a", Addr: 0x2000, Size: 1, Prot: 1},
		{Name: "up to MaxAddress", Addr: top - 0x1000, Size: 0x1000, Prot: 7},
		{Name: "beyond it", Addr: top - 0x1000, Size: 0x1001, Prot: 7},
		{Name: "up to 2^64", Addr: 1<<64 - 0x1000, Size: 0x1000, FileSize: 32, Prot: 7},
		{Name: "beyond 2^64", Addr: 1<<64 - 0x18, Size: 0x40, Off: 1, FileSize: 0x30, Prot: 2},
		{Name: "all", Size: math.MaxUint64, FileSize: 64, Prot: 1},
		{Name: "all but 0", Addr: 1, Size: math.MaxUint64, FileSize: 65, Prot: 10},
		{Name: "as much as may be", Size: top, Prot: 1},
		{Name: "none", Addr: 0x1004, Prot: 3},
		{Name: "none at 0", Prot: 3},
		{Name: "none at MaxAddress", Addr: top, Prot: 3},
		{Name: "none beyond it", Addr: top + 1, Prot: 3},
		{Name: "of a protection that is none", Addr: 0x9000, Size: 0x3000, Prot: -1},
		{Name: "no hole, as it has bytes", Addr: 0x20000, Size: 32, FileSize: 2},
	}
}
