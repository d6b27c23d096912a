package load_test

import (
	"bytes"
	"encoding/binary"
	"slices"

	"clevis/api"
)

// Bytes of commands, put together.

// n4 are numbers of 4 bytes each, the lowest byte first.
func n4(l ...uint32) []byte {
	var b []byte
	for _, n := range l {
		b = binary.LittleEndian.AppendUint32(b, n)
	}
	return b
}

// n8 are numbers of 8 bytes each, the lowest byte first.
func n8(l ...uint64) []byte {
	var b []byte
	for _, n := range l {
		b = binary.LittleEndian.AppendUint64(b, n)
	}
	return b
}

// field is a field of 16 bytes.
func field(s string) []byte {
	return append([]byte(s), make([]byte, 16-len(s))...)
}

// of is a command of what it says, with noughts behind it up to a multiple of 8.
func of(cmd uint32, says ...[]byte) []byte {
	b := slices.Concat(n4(cmd, 0), slices.Concat(says...))
	for len(b)%8 != 0 {
		b = append(b, 0)
	}
	copy(b[4:], n4(uint32(len(b))))
	return b
}

// named is a command of a name that stands behind its numbers.
func named(cmd uint32, name string) []byte {
	return of(cmd, n4(24, 0x0A0B0C0D, 0x01020304, 0xF0F1F2F3), []byte(name), []byte{0})
}

// section is a section as it stands there; what nobody asks for is of other bytes than 0.
func section(x api.Section) []byte {
	return slices.Concat(field(x.Name), field(x.Segment), n8(x.Addr, x.Size), n4(uint32(x.Off), 0xA1A2A3A4, 0xB1B2B3B4, 0xC1C2C3C4, 0xD1D2D300|uint32(x.Kind)), bytes.Repeat([]byte{0xEE}, 12))
}

// segment is a segment's command.
func segment(s api.Segment) []byte {
	l := [][]byte{field(s.Name), n8(s.Addr, s.Size, s.Off, s.FileSize), n4(0x91929394, uint32(s.Prot), uint32(len(s.Sections)), 0x81828384)}
	for _, x := range s.Sections {
		l = append(l, section(x))
	}
	return of(0x19, l...)
}

// text is a segment of so many sections.
func text(name string, sections int) api.Segment {
	s := api.Segment{Name: name, Addr: 1 << 32, Size: 8192, FileSize: 8192, Prot: 5}
	for i := range sections {
		s.Sections = append(s.Sections, api.Section{Name: "s" + string(rune('0'+i)), Segment: name, Addr: 1<<32 + uint64(i), Size: 1, Off: uint64(i), Kind: i})
	}
	return s
}

// whole is a header (of an Exec without flags), and commands, which it says just as they are.
func whole(l ...[]byte) []byte {
	return headed(0, 2, 0, l...)
}

// headed is a header, and commands, which it says just as they are.
func headed(sub, kind, flags uint32, l ...[]byte) []byte {
	all := bytes.Join(l, nil)
	return append(n4(0xFEEDFACF, 0x0100000C, sub, kind, uint32(len(l)), uint32(len(all)), flags, 0), all...)
}

// onesOfEach are commands of each kind, none of which an image may not have beside the others; names are of few bytes.
func onesOfEach() [][]byte {
	return [][]byte{
		segment(api.Segment{Name: "__PAGEZERO", Size: 1 << 32}),
		segment(text("__TEXT", 2)),
		named(0xD, "/a"),
		named(0xC, "/lib/b"),
		named(0x80000018, "c"),
		named(0x8000001F, "dd"),
		named(0x80000023, "eeeeeee"),
		of(0x80000022, n4(0x100, 1, 0x200, 2, 0x300, 3, 0x400, 4, 0x500, 5)),
		of(0x80000034, n4(0x600, 6)),
		of(2, n4(0x700, 7, 0x800, 8)),
		of(0x80000028, n8(0x900, 9)),
		of(0x1B, n4(1, 2, 3, 4)),
	}
}

// others are commands of the other two ways in which spans are said.
func others() [][]byte {
	return [][]byte{
		of(0x22, n4(0x100, 1, 0x200, 2, 0x300, 3, 0x400, 4, 0x500, 0)),
		of(0x80000033, n4(0x600, 6)),
	}
}

// known are the commands of the table.
func known() []uint32 {
	return []uint32{0x19, 0xD, 0xC, 0x80000018, 0x8000001F, 0x80000023, 0x22, 0x80000022, 0x80000033, 0x80000034, 2, 0x80000028}
}
