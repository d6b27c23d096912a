package leb_test

import (
	"bytes"
	"testing"

	"clevis/api"
	"clevis/cursor"
	"clevis/leb"
)

// P0.3 (within bounds), and what the chapter says of a cursor that can't take

// nothing asks that neither call takes anything of a cursor, which stays as it is.
func nothing(t *testing.T, what string, c *cursor.Cursor) {
	t.Helper()
	at, left, err := c.At(), c.Left(), c.Err()
	for range 3 {
		if u, s := leb.Uleb(c), leb.Sleb(c); u != 0 || s != 0 {
			t.Errorf("%s: %d, %d", what, u, s)
		}
		if c.At() != at || c.Left() != left || c.Err() != err {
			t.Errorf("%s: at %d, %d left (%v), want at %d, %d left (%v)", what, c.At(), c.Left(), c.Err(), at, left, err)
		}
	}
}

func TestNilCursor(t *testing.T) {
	for _, x := range takes() {
		var c *cursor.Cursor
		if n := x.do(c); n.Sign() != 0 || c.Err() != api.ErrNil {
			t.Errorf("%s of nil: %v (%v)", x.what, n, c.Err())
		}
	}
	nothing(t, "nil", nil)
}

func TestFailedCursor(t *testing.T) {
	for _, b := range [][]byte{{}, {5}, {229, 142, 38, 1}, {128, 128}, bytes.Repeat([]byte{255}, 12)} {
		for at := range len(b) + 1 {
			c := cursor.New(b, false)
			c.Seek(at)
			c.Fail()
			nothing(t, "a failed one", c)
		}
	}
}

func TestCursorWithoutBytes(t *testing.T) {
	for _, x := range takes() {
		for _, c := range []*cursor.Cursor{{}, cursor.New(nil, false), cursor.New([]byte{}, true)} {
			if n := x.do(c); n.Sign() != 0 || c.At() != 0 || c.Err() != api.ErrShort {
				t.Errorf("%s without bytes: %v, at %d (%v)", x.what, n, c.At(), c.Err())
			}
			nothing(t, "without bytes", c)
		}
	}
}

func TestWhereNoNumberStandsNothingIsTakenAnyMore(t *testing.T) {
	none := append(bytes.Repeat([]byte{255}, 9), 2, 5, 6)
	for _, x := range takes() {
		c := cursor.New(none, false)
		x.do(c)
		nothing(t, x.what, c)
		if c.At() != 0 || c.Err() != api.ErrShort || c.Number(1) != 0 {
			t.Errorf("%s: at %d (%v)", x.what, c.At(), c.Err())
		}
	}
}

func TestOneKindMayBeWhereTheOtherIsNot(t *testing.T) {
	nine := bytes.Repeat([]byte{128}, 9)
	c := cursor.New(append(bytes.Clone(nine), 1), false)
	if n := leb.Uleb(c); n != 1<<63 || c.At() != 10 || c.Err() != api.OK {
		t.Errorf("Uleb of a tenth byte 1: %d, at %d (%v)", n, c.At(), c.Err())
	}
	c = cursor.New(append(bytes.Clone(nine), 127), false)
	if n := leb.Sleb(c); n != -1<<63 || c.At() != 10 || c.Err() != api.OK {
		t.Errorf("Sleb of a tenth byte 127: %d, at %d (%v)", n, c.At(), c.Err())
	}
}

// FuzzTakes: whatever bytes there are, each call takes what the document says, again and again up to the end.
func FuzzTakes(f *testing.F) {
	f.Add([]byte{})
	f.Add([]byte{127, 229, 142, 38, 128, 128, 0})
	f.Add(bytes.Repeat([]byte{255}, 40))
	f.Add(append(bytes.Repeat([]byte{128}, 9), 1, 127, 0))
	f.Add(append(bytes.Repeat([]byte{255}, 9), 127, 200, 1))
	f.Fuzz(func(t *testing.T, b []byte) {
		for _, x := range takes() {
			c := cursor.New(b, false)
			for c.Err() == api.OK {
				at := c.At()
				want := x.want(b[at:])
				if n := x.do(c); n.Cmp(want.n) != 0 || c.At() != at+want.size || (c.Err() == api.OK) != (want.size > 0) {
					t.Fatalf("%s at %d of % x: %v, at %d (%v), want %v, over %d", x.what, at, b, n, c.At(), c.Err(), want.n, want.size)
				}
			}
		}
	})
}
