package cursor_test

import (
	"errors"
	"math"
	"strconv"
	"testing"

	"clevis/api"
	"clevis/cursor"
)

// P1.2 (looks)

func TestLooksAlongTheWay(t *testing.T) {
	c := cursor.New([]byte{1, 2, 3, 0, 5}, false)
	look := func(at, left int) {
		t.Helper()
		if c.At() != at || c.Left() != left || c.Err() != api.OK || c.Wrong() != nil {
			t.Errorf("at %d, %d left (%v, %v); want at %d, %d left", c.At(), c.Left(), c.Err(), c.Wrong(), at, left)
		}
	}
	look(0, 5)
	c.Number(2)
	look(2, 3)
	c.Text(9)
	look(4, 1)
	c.Bytes(1)
	look(5, 0)
	c.Seek(1)
	look(1, 4)
	c.Field(3)
	look(4, 1)
}

func TestTheDocumentsExample(t *testing.T) {
	c := cursor.New([]byte{1, 2, 3, 0, 5}, false)
	if n := c.Number(2); n != 513 {
		t.Errorf("Number(2) is %d", n)
	}
	if s := c.Text(9); s != "\x03" {
		t.Errorf("Text(9) is %q", s)
	}
	if n := c.Number(4); n != 0 {
		t.Errorf("Number(4) is %d", n)
	}
	if c.Err() != api.ErrShort || c.At() != 4 {
		t.Errorf("%v, at %d", c.Err(), c.At())
	}
	if err := c.Wrong(); err == nil || err.Error() != "at 4: short" {
		t.Errorf("Wrong is %v", err)
	}
}

// wrongOf is the *Wrong that a cursor tells.
func wrongOf(t *testing.T, c *cursor.Cursor) *cursor.Wrong {
	t.Helper()
	w, is := c.Wrong().(*cursor.Wrong)
	if !is || w == nil {
		t.Fatalf("Wrong is %v, no *Wrong", c.Wrong())
	}
	return w
}

func TestFail(t *testing.T) {
	c := cursor.New([]byte{1, 2, 3}, false)
	c.Seek(2)
	c.Fail()
	if c.Err() != api.ErrShort || c.At() != 2 || c.Left() != 1 {
		t.Errorf("%v, at %d, %d left", c.Err(), c.At(), c.Left())
	}
	if w := wrongOf(t, c); w.At != 2 || w.Err != api.ErrShort {
		t.Errorf("Wrong is %v", w)
	}
}

func TestWrongOfNil(t *testing.T) {
	var c *cursor.Cursor
	w := wrongOf(t, c)
	if w.At != 0 || w.Err != api.ErrNil || w.Error() != "at 0: nil" || !errors.Is(w, api.ErrNil) {
		t.Errorf("Wrong is %v", w)
	}
	if c.At() != 0 || c.Left() != 0 {
		t.Errorf("at %d, %d left", c.At(), c.Left())
	}
}

func TestWrongIsANewOneEachTime(t *testing.T) {
	c := cursor.New([]byte{1, 2, 3}, false)
	c.Seek(1)
	c.Fail()
	wrongOf(t, c).At = 9
	if w := wrongOf(t, c); w.At != 1 || c.At() != 1 {
		t.Errorf("what was told is shared: %v, at %d", w, c.At())
	}
}

func TestWrongTellsAndWraps(t *testing.T) {
	for _, x := range []struct {
		w    cursor.Wrong
		text string
	}{
		{cursor.Wrong{}, "at 0: ok"},
		{cursor.Wrong{At: 17, Err: api.ErrTrie}, "at 17: trie"},
		{cursor.Wrong{At: -3, Err: api.ErrOrdinal}, "at -3: ordinal"},
		{cursor.Wrong{At: math.MaxInt, Err: api.ErrNil}, "at " + strconv.Itoa(math.MaxInt) + ": nil"},
		{cursor.Wrong{At: 1, Err: 99}, "at 1: "},
	} {
		if s := x.w.Error(); s != x.text {
			t.Errorf("text %q, want %q", s, x.text)
		}
		if err := x.w.Unwrap(); err != error(x.w.Err) {
			t.Errorf("%q wraps %v", x.text, err)
		}
	}
}

func TestNilWrongDoesNotPanic(t *testing.T) {
	var w *cursor.Wrong
	if w.Error() != "" || w.Unwrap() != nil {
		t.Errorf("a nil *Wrong: %q, %v", w.Error(), w.Unwrap())
	}
	if e := cursor.Code(w); e != api.ErrArg {
		t.Errorf("Code of a nil *Wrong: %v", e)
	}
}
