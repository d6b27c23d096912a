// Package cursor is layer 1: bytes, gone over within bounds. See shared/doc/01-cursor.md.
package cursor

import (
	"bytes"

	"clevis/api"
)

// Cursor goes over bytes of its own. A zero one has none.
type Cursor struct {
	bytes  []byte
	at     int
	big    bool
	failed bool
}

// New is a cursor over a copy of b; a big one reads numbers with the highest byte first.
func New(b []byte, big bool) *Cursor {
	return &Cursor{bytes: bytes.Clone(b), big: big}
}

// Number takes a number of 1, 2, 4 or 8 bytes.
func (c *Cursor) Number(size int) uint64 {
	switch size {
	case 1, 2, 4, 8:
	default:
		c.Fail()
	}
	var n uint64
	for i, b := range c.take(size) {
		if c.big {
			n = n<<8 | uint64(b)
		} else {
			n |= uint64(b) << (8 * i)
		}
	}
	return n
}

// Bytes takes n bytes, in new memory.
func (c *Cursor) Bytes(n int) []byte {
	return bytes.Clone(c.take(n))
}

// Field takes n bytes, and tells those ahead of the first 0.
func (c *Cursor) Field(n int) string {
	told, _, _ := bytes.Cut(c.take(n), []byte{0})
	return string(told)
}

// Text takes at most so many bytes, and the 0 behind them, which is not told.
func (c *Cursor) Text(most int) string {
	text := string(c.take(c.textSize(most)))
	c.take(1)
	return text
}

// At is the place.
func (c *Cursor) At() int {
	if c == nil {
		return 0
	}
	return c.at
}

// Left is how many bytes are left.
func (c *Cursor) Left() int {
	return len(c.rest())
}

// Seek goes to a place.
func (c *Cursor) Seek(at int) {
	if c == nil || c.failed {
		return
	}
	if at < 0 || at > len(c.bytes) {
		c.failed = true
		return
	}
	c.at = at
}

// Fail lets the cursor have failed: it takes nothing from now on.
func (c *Cursor) Fail() {
	if c != nil {
		c.failed = true
	}
}

// Err is OK, or why nothing is taken any more.
func (c *Cursor) Err() api.Errno {
	switch {
	case c == nil:
		return api.ErrNil
	case c.failed:
		return api.ErrShort
	}
	return api.OK
}

// Wrong is nil, or a *Wrong that tells where the cursor has failed.
func (c *Cursor) Wrong() error {
	err := c.Err()
	if err == api.OK {
		return nil
	}
	return &Wrong{At: c.At(), Err: err}
}

// take cuts the next n bytes, and goes behind them. Its callers copy them, as they are the cursor's own.
func (c *Cursor) take(n int) []byte {
	if c == nil || c.failed {
		return nil
	}
	if n < 0 || n > c.Left() {
		c.failed = true
		return nil
	}
	end := c.at + n
	cut := c.bytes[c.at:end:end]
	c.at = end
	return cut
}

// rest is what stands from the place on.
func (c *Cursor) rest() []byte {
	if c == nil {
		return nil
	}
	return c.bytes[c.at:]
}

// textSize is how many bytes the next text has, without its 0; below 0 where none stands that may be taken.
func (c *Cursor) textSize(most int) int {
	if most < 0 {
		return -1
	}
	look := c.rest()
	// Held against the length first: most + 1 may be beyond the greatest int.
	if most < len(look) {
		look = look[:most+1]
	}
	return bytes.IndexByte(look, 0)
}
