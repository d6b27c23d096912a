package fat

import (
	"clevis/api"
	"clevis/cursor"
)

// shape is how a fat file's entries stand: both kinds are read and made by one code, so that they differ in these numbers alone.
type shape struct {
	magic string
	place int // how many bytes a place has, and a size
	rest  int // how many bytes behind the align are not looked at
}

func shapeOf(wide bool) shape {
	if wide {
		return shape{magic: wideMagic, place: 8, rest: 4}
	}
	return shape{magic: fatMagic, place: 4}
}

// size is how many bytes an entry has.
func (sh shape) size() int {
	return 4 + 4 + sh.place + sh.place + 4 + sh.rest
}

// take takes an entry.
func (sh shape) take(c *cursor.Cursor) api.Slice {
	var s api.Slice
	s.Cpu = uint32(c.Number(4))
	s.Sub = uint32(c.Number(4))
	s.Span.Off = c.Number(sh.place)
	s.Span.Size = c.Number(sh.place)
	s.Align = int(c.Number(4))
	c.Bytes(sh.rest)
	return s
}

// put lays an entry behind b.
func (sh shape) put(b []byte, s api.Slice) []byte {
	b = number(b, 4, uint64(s.Cpu))
	b = number(b, 4, uint64(s.Sub))
	b = number(b, sh.place, s.Span.Off)
	b = number(b, sh.place, s.Span.Size)
	b = number(b, 4, uint64(s.Align))
	return number(b, sh.rest, 0)
}

// number lays a number of so many bytes behind b, the highest first.
func number(b []byte, size int, n uint64) []byte {
	for i := size - 1; i >= 0; i-- {
		b = append(b, byte(n>>(8*i)))
	}
	return b
}
