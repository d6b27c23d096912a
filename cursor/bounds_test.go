package cursor_test

import (
	"bytes"
	"math"
	"strings"
	"testing"

	"clevis/api"
	"clevis/cursor"
)

// P1.4 and P0.3 (what follows, within bounds)

func TestPartsComeToAllOfIt(t *testing.T) {
	b := make([]byte, 300)
	for i := range b {
		b[i] = byte(i * 7)
	}
	for size := 1; size <= len(b); size++ {
		c := cursor.New(b, false)
		var all []byte
		for c.Left() > 0 {
			all = append(all, c.Bytes(min(size, c.Left()))...)
		}
		if !bytes.Equal(all, b) || c.At() != len(b) || c.Err() != api.OK {
			t.Errorf("parts of %d bytes: %d bytes, at %d (%v)", size, len(all), c.At(), c.Err())
		}
	}
}

func TestTextsComeToAllOfIt(t *testing.T) {
	whole := "a\x00\x00bcd\x00\xff\xfe\x00"
	c := cursor.New([]byte(whole), false)
	var all strings.Builder
	for c.Left() > 0 && c.Err() == api.OK {
		all.WriteString(c.Text(c.Left()) + "\x00")
	}
	if all.String() != whole || c.Err() != api.OK {
		t.Errorf("texts come to %q (%v)", all.String(), c.Err())
	}
}

func TestNumbersComeToAllOfIt(t *testing.T) {
	b := []byte{0x11, 0x22, 0x33, 0x44, 0x55, 0x66, 0x77, 0x88}
	for _, high := range []bool{false, true} {
		want := cursor.New(b, high).Number(8)
		for _, size := range []int{1, 2, 4} {
			c := cursor.New(b, high)
			var got uint64
			for i := 0; i < 8; i += size {
				part := c.Number(size)
				if high {
					got = got<<(8*size) | part
				} else {
					got |= part << (8 * i)
				}
			}
			if got != want || c.Err() != api.OK {
				t.Errorf("numbers of %d bytes, big %v, come to %x, want %x (%v)", size, high, got, want, c.Err())
			}
		}
	}
}

// call is a call that takes: what it answers, as bytes, and what it ought to answer and to go over, where it may.
type call struct {
	what string
	do   func(c *cursor.Cursor) []byte
	// want tells of what is left what is answered, and how many bytes are gone over; below 0: it fails.
	want func(rest []byte) ([]byte, int)
}

// low puts a number's bytes, the lowest first.
func low(n uint64, size int) []byte {
	var b []byte
	for range max(size, 1) {
		b = append(b, byte(n))
		n >>= 8
	}
	return b
}

func numberCall(size int) call {
	return call{"Number", func(c *cursor.Cursor) []byte { return low(c.Number(size), size) }, func(rest []byte) ([]byte, int) {
		if size != 1 && size != 2 && size != 4 && size != 8 || size > len(rest) {
			return low(0, size), -1
		}
		return rest[:size], size
	}}
}

func bytesCall(n int) call {
	return call{"Bytes", func(c *cursor.Cursor) []byte { return c.Bytes(n) }, func(rest []byte) ([]byte, int) {
		if n < 0 || n > len(rest) {
			return nil, -1
		}
		return rest[:n], n
	}}
}

func fieldCall(n int) call {
	return call{"Field", func(c *cursor.Cursor) []byte { return []byte(c.Field(n)) }, func(rest []byte) ([]byte, int) {
		if n < 0 || n > len(rest) {
			return nil, -1
		}
		for i := range n {
			if rest[i] == 0 {
				return rest[:i], n
			}
		}
		return rest[:n], n
	}}
}

func textCall(most int) call {
	return call{"Text", func(c *cursor.Cursor) []byte { return []byte(c.Text(most)) }, func(rest []byte) ([]byte, int) {
		for i, b := range rest {
			if b == 0 && i <= most {
				return rest[:i], i + 1
			}
			if b == 0 {
				break
			}
		}
		return nil, -1
	}}
}

func calls() []call {
	var l []call
	for _, n := range []int{math.MinInt, -1, 0, 1, 2, 3, 4, math.MaxInt} {
		l = append(l, bytesCall(n), fieldCall(n), textCall(n))
		if n > -2 && n < 9 {
			l = append(l, numberCall(n))
		}
	}
	return append(l, numberCall(8))
}

// step makes one call, and holds the answer and the place against what the document says of it.
func step(t *testing.T, c *cursor.Cursor, x call, b []byte) {
	at, failed := c.At(), c.Err() != api.OK
	want, over := x.want(b[at:])
	if failed {
		want, over = low(0, len(want)), -1
	}
	got := x.do(c)
	if failed && len(bytes.Trim(got, "\x00")) != 0 || !failed && !bytes.Equal(got, want) {
		t.Fatalf("%s at %d of %v: %v, want %v", x.what, at, b, got, want)
	}
	if c.At() != at+max(over, 0) || (c.Err() != api.OK) != (over < 0) {
		t.Fatalf("%s at %d of %v goes to %d (%v), not over %d", x.what, at, b, c.At(), c.Err(), over)
	}
	if c.At() > len(b) || c.At()+c.Left() != len(b) {
		t.Fatalf("%s: at %d, %d left, of %d", x.what, c.At(), c.Left(), len(b))
	}
}

// rows are all rows of at most so many bytes, each of which is 0, 1 or 255.
func rows(most int) [][]byte {
	all, last := [][]byte{{}}, [][]byte{{}}
	for range most {
		var next [][]byte
		for _, r := range last {
			for _, b := range []byte{0, 1, 255} {
				next = append(next, append(bytes.Clone(r), b))
			}
		}
		all, last = append(all, next...), next
	}
	return all
}

func TestAllShortRowsAndPairsOfCalls(t *testing.T) {
	list := calls()
	for _, b := range append(rows(4), []byte{1, 0, 2, 255, 0, 0, 7, 8, 9, 0}) {
		for _, first := range list {
			for _, second := range list {
				c := cursor.New(b, false)
				step(t, c, first, b)
				step(t, c, second, b)
			}
		}
	}
}

func FuzzCursor(f *testing.F) {
	f.Add([]byte{1, 2, 3, 0, 5}, []byte{0, 1, 2, 3, 4, 5})
	f.Add([]byte{}, []byte{9})
	f.Add(bytes.Repeat([]byte{0, 255}, 40), bytes.Repeat([]byte{3, 7, 11}, 9))
	list := calls()
	f.Fuzz(func(t *testing.T, b, which []byte) {
		c := cursor.New(b, false)
		for _, w := range which {
			step(t, c, list[int(w)%len(list)], b)
		}
	})
}
