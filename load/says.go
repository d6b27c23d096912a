package load

import (
	"clevis/api"
	"clevis/cursor"
)

// The commands that are known, by what they say.
const (
	cmdSymbols  = 0x2
	cmdLoad     = 0xC
	cmdOwn      = 0xD
	cmdSegment  = 0x19
	cmdInfo     = 0x22
	cmdWeak     = 0x80000018
	cmdReexport = 0x8000001F
	cmdInfoOnly = 0x80000022
	cmdUpward   = 0x80000023
	cmdEntry    = 0x80000028
	cmdTrie     = 0x80000033
	cmdChains   = 0x80000034
)

// must is the bit of a cmd that is not let be where it isn't known.
const must = 1 << 31

// How many bytes there are of what commands say.
const (
	frontSize   = 4 + 4 // the cmd, and how many bytes the command has
	fieldSize   = 16    // the name of a segment, or a section
	segmentSize = frontSize + fieldSize + 4*8 + 4*4
	sectionSize = 2*fieldSize + 2*8 + 8*4
	namedSize   = frontSize + 4*4
	spanSize    = 4 + 4
	entrySize   = frontSize + 8 + 8
	symbolSize  = 16
)

const maxProt = api.ProtRead | api.ProtWrite | api.ProtExec

// needs are the commands that are known, and how many bytes each has at least: a segment without its sections, a name without what it is.
func needs() map[uint32]int {
	return map[uint32]int{
		cmdSegment:  segmentSize,
		cmdOwn:      namedSize,
		cmdLoad:     namedSize,
		cmdWeak:     namedSize,
		cmdReexport: namedSize,
		cmdUpward:   namedSize,
		cmdInfo:     frontSize + 5*spanSize,
		cmdInfoOnly: frontSize + 5*spanSize,
		cmdTrie:     frontSize + spanSize,
		cmdChains:   frontSize + spanSize,
		cmdSymbols:  frontSize + 2*spanSize,
		cmdEntry:    entrySize,
	}
}

// Known: is a command known?
func Known(cmd uint32) bool {
	_, is := needs()[cmd]
	return is
}

// Segment is a segment's command.
func Segment(b []byte) (api.Segment, api.Errno) {
	c, cmd, err := open(b)
	if err != api.OK {
		return api.Segment{}, err
	}
	if cmd != cmdSegment {
		return api.Segment{}, api.ErrCommand
	}
	s := api.Segment{Name: c.Field(fieldSize), Addr: c.Number(8), Size: c.Number(8), Off: c.Number(8), FileSize: c.Number(8)}
	// The greatest protection, which nobody asks for.
	c.Number(4)
	prot := c.Number(4)
	count := c.Number(4)
	// Flags of the segment, which nobody asks for.
	c.Number(4)
	if count > uint64(c.Left()/sectionSize) {
		return api.Segment{}, api.ErrShort
	}
	if prot > maxProt {
		return api.Segment{}, api.ErrSection
	}
	s.Prot = int(prot)
	for range count {
		x := takeSection(c)
		if x.Segment != s.Name {
			return api.Segment{}, api.ErrSection
		}
		s.Sections = append(s.Sections, x)
	}
	// Asked last: a section of a wrong name is told ahead of too many, wherever it stands.
	if count > api.MaxSections {
		return api.Segment{}, api.ErrMany
	}
	return s, api.OK
}

// Name is the name of a command.
func Name(b []byte) (string, api.Errno) {
	c, cmd, err := open(b)
	if err != api.OK {
		return "", err
	}
	switch cmd {
	case cmdOwn, cmdLoad, cmdWeak, cmdReexport, cmdUpward:
	default:
		return "", api.ErrCommand
	}
	c.Seek(int(c.Number(4)))
	name := c.Text(api.MaxName)
	// A cursor that has failed tells no text: no bytes, too.
	if name == "" {
		return "", api.ErrName
	}
	return name, api.OK
}

// Spans are those of a command.
func Spans(b []byte) ([]api.Span, api.Errno) {
	c, cmd, err := open(b)
	if err != api.OK {
		return nil, err
	}
	var l []api.Span
	switch cmd {
	case cmdInfo, cmdInfoOnly:
		for range 4 {
			l = append(l, takeSpan(c, 1))
		}
		// Its last one says the same as the command of a trie alone.
		fallthrough
	case cmdTrie, cmdChains:
		l = append(l, takeSpan(c, 1))
	case cmdSymbols:
		symbols := takeSpan(c, symbolSize)
		l = append(l, symbols, takeSpan(c, 1))
	default:
		return nil, api.ErrCommand
	}
	return l, api.OK
}

// open is a cursor over a command, behind its two first numbers, and its cmd; ErrShort, where there are fewer bytes than such a command has at least.
func open(b []byte) (*cursor.Cursor, uint32, api.Errno) {
	c := cursor.New(b, false)
	cmd := uint32(c.Number(4))
	// How many bytes it says that it has: who cuts commands asks that.
	c.Number(4)
	if c.Err() != api.OK || len(b) < needs()[cmd] {
		return nil, 0, api.ErrShort
	}
	return c, cmd, api.OK
}

func takeSection(c *cursor.Cursor) api.Section {
	x := api.Section{Name: c.Field(fieldSize), Segment: c.Field(fieldSize), Addr: c.Number(8), Size: c.Number(8), Off: c.Number(4)}
	// Its align, where its relocations stand, and how many: nobody asks for them, nor for what stands behind its flags.
	c.Bytes(3 * 4)
	x.Kind = int(c.Number(1))
	c.Bytes(3 + 3*4)
	return x
}

// takeSpan takes a span, which is told in units of so many bytes. Both are of 4 bytes: no product is beyond 2^64.
func takeSpan(c *cursor.Cursor, unit uint64) api.Span {
	return api.Span{Off: c.Number(4), Size: c.Number(4) * unit}
}
