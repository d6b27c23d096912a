package cursor_test

import (
	"bytes"
	"math"
	"testing"

	"clevis/api"
	"clevis/cursor"
)

// P1.1 (what is taken)

// expect holds a cursor's looks against a place and an error.
func expect(t *testing.T, c *cursor.Cursor, what string, at int, err api.Errno) {
	t.Helper()
	if c.At() != at || c.Err() != err {
		t.Errorf("%s: at %d (%v), want at %d (%v)", what, c.At(), c.Err(), at, err)
	}
}

func TestNumberOfEachSize(t *testing.T) {
	b := []byte{0x81, 2, 3, 4, 5, 6, 7, 0xF8, 9}
	for _, x := range []struct {
		size     int
		low, big uint64
	}{
		{1, 0x81, 0x81},
		{2, 0x0281, 0x8102},
		{4, 0x04030281, 0x81020304},
		{8, 0xF807060504030281, 0x81020304050607F8},
	} {
		for _, big := range []bool{false, true} {
			want := x.low
			if big {
				want = x.big
			}
			c := cursor.New(b, big)
			if n := c.Number(x.size); n != want {
				t.Errorf("Number(%d), big %v: %x, want %x", x.size, big, n, want)
			}
			expect(t, c, "Number", x.size, api.OK)
		}
	}
}

func TestNumberOfAllBits(t *testing.T) {
	for _, size := range []int{1, 2, 4, 8} {
		for _, big := range []bool{false, true} {
			c := cursor.New(bytes.Repeat([]byte{255}, size), big)
			if n := c.Number(size); n != math.MaxUint64>>(64-8*size) {
				t.Errorf("Number(%d) of ones: %x", size, n)
			}
			expect(t, c, "Number of all", size, api.OK)
		}
	}
}

func TestNumberOfAWrongSize(t *testing.T) {
	for _, size := range []int{math.MinInt, -8, -1, 0, 3, 5, 6, 7, 9, 16, math.MaxInt} {
		for _, big := range []bool{false, true} {
			c := cursor.New(bytes.Repeat([]byte{7}, 32), big)
			c.Seek(2)
			if n := c.Number(size); n != 0 {
				t.Errorf("Number(%d) is %x", size, n)
			}
			expect(t, c, "Number of a wrong size", 2, api.ErrShort)
		}
	}
}

func TestNumberOfFewerBytes(t *testing.T) {
	for _, size := range []int{1, 2, 4, 8} {
		c := cursor.New(bytes.Repeat([]byte{7}, size), false)
		c.Seek(1)
		if n := c.Number(size); n != 0 {
			t.Errorf("Number(%d) of fewer bytes is %x", size, n)
		}
		expect(t, c, "Number of fewer bytes", 1, api.ErrShort)
	}
}

func TestBytes(t *testing.T) {
	for _, x := range []struct {
		n    int
		want []byte
		at   int
		err  api.Errno
	}{
		{0, nil, 1, api.OK},
		{1, []byte{2}, 2, api.OK},
		{3, []byte{2, 0, 4}, 4, api.OK},
		{4, nil, 1, api.ErrShort},
		{-1, nil, 1, api.ErrShort},
		{math.MinInt, nil, 1, api.ErrShort},
		{math.MaxInt, nil, 1, api.ErrShort},
	} {
		c := cursor.New([]byte{1, 2, 0, 4}, true)
		c.Seek(1)
		if b := c.Bytes(x.n); !bytes.Equal(b, x.want) {
			t.Errorf("Bytes(%d) is %v, want %v", x.n, b, x.want)
		}
		expect(t, c, "Bytes", x.at, x.err)
	}
}

func TestBytesOfAFailedCursorAreNil(t *testing.T) {
	c := cursor.New([]byte{1}, false)
	if b := c.Bytes(2); b != nil {
		t.Errorf("Bytes beyond the end: %v", b)
	}
}

func TestMemoryIsApart(t *testing.T) {
	given := []byte{1, 2, 3, 4}
	c := cursor.New(given, false)
	given[0] = 9
	first := c.Bytes(2)
	if !bytes.Equal(first, []byte{1, 2}) {
		t.Errorf("the cursor's bytes are not its own: %v", first)
	}
	first[0] = 8
	_ = append(first, 7, 7)
	c.Seek(0)
	second := c.Bytes(4)
	if !bytes.Equal(second, []byte{1, 2, 3, 4}) {
		t.Errorf("what was told is not in new memory: %v", second)
	}
	if !bytes.Equal(given, []byte{9, 2, 3, 4}) {
		t.Errorf("what was handed in was changed: %v", given)
	}
}

func TestField(t *testing.T) {
	for _, x := range []struct {
		b    string
		n    int
		want string
		at   int
		err  api.Errno
	}{
		{"abcd", 3, "abc", 3, api.OK},
		{"ab\x00d", 4, "ab", 4, api.OK},
		{"abc\x00", 3, "abc", 3, api.OK},
		{"\x00bcd", 4, "", 4, api.OK},
		{"a\x00b\x00", 4, "a", 4, api.OK},
		{"\xff\xfe\x00", 3, "\xff\xfe", 3, api.OK},
		{"abcd", 0, "", 0, api.OK},
		{"abcd", 5, "", 0, api.ErrShort},
		{"ab\x00", 4, "", 0, api.ErrShort},
		{"abcd", -1, "", 0, api.ErrShort},
		{"abcd", math.MinInt, "", 0, api.ErrShort},
		{"abcd", math.MaxInt, "", 0, api.ErrShort},
	} {
		c := cursor.New([]byte(x.b), false)
		if s := c.Field(x.n); s != x.want {
			t.Errorf("Field(%d) of %q is %q, want %q", x.n, x.b, s, x.want)
		}
		expect(t, c, "Field", x.at, x.err)
	}
}

func TestText(t *testing.T) {
	for _, x := range []struct {
		b    string
		most int
		want string
		at   int
		err  api.Errno
	}{
		{"abc\x00d", 9, "abc", 4, api.OK},
		{"abc\x00d", 3, "abc", 4, api.OK},
		{"abc\x00d", 2, "", 0, api.ErrShort},
		{"abc\x00", math.MaxInt, "abc", 4, api.OK},
		{"\x00a", 0, "", 1, api.OK},
		{"\x00a", 5, "", 1, api.OK},
		{"a\x00", 0, "", 0, api.ErrShort},
		{"abc", 9, "", 0, api.ErrShort},
		{"abc", 3, "", 0, api.ErrShort},
		{"abc", math.MaxInt, "", 0, api.ErrShort},
		{"", 0, "", 0, api.ErrShort},
		{"", 9, "", 0, api.ErrShort},
		{"\x00", -1, "", 0, api.ErrShort},
		{"\x00", math.MinInt, "", 0, api.ErrShort},
		{"\xff\x80\x00", 2, "\xff\x80", 3, api.OK},
	} {
		c := cursor.New([]byte(x.b), false)
		if s := c.Text(x.most); s != x.want {
			t.Errorf("Text(%d) of %q is %q, want %q", x.most, x.b, s, x.want)
		}
		expect(t, c, "Text", x.at, x.err)
	}
}

func TestSeek(t *testing.T) {
	for _, x := range []struct {
		to, at int
		err    api.Errno
	}{
		{0, 0, api.OK},
		{1, 1, api.OK},
		{3, 3, api.OK},
		{4, 2, api.ErrShort},
		{math.MaxInt, 2, api.ErrShort},
		{-1, 2, api.ErrShort},
		{math.MinInt, 2, api.ErrShort},
	} {
		c := cursor.New([]byte{1, 2, 3}, false)
		c.Seek(2)
		c.Seek(x.to)
		expect(t, c, "Seek", x.at, x.err)
	}
}

func TestTheEndIsAPlace(t *testing.T) {
	c := cursor.New([]byte{1, 2, 3}, false)
	c.Seek(3)
	if len(c.Bytes(0)) != 0 || c.Field(0) != "" || c.Left() != 0 {
		t.Error("nothing is taken at the end")
	}
	expect(t, c, "nothing at the end", 3, api.OK)
	if n := c.Number(1); n != 0 {
		t.Errorf("a number at the end: %d", n)
	}
	expect(t, c, "a number at the end", 3, api.ErrShort)
}

// nothing asks that a cursor takes nothing, whatever is asked, and keeps its place.
func nothing(t *testing.T, c *cursor.Cursor, what string) {
	t.Helper()
	at, left, err := c.At(), c.Left(), c.Err()
	for _, n := range []int{-1, 0, 1, 2, 3, 4, 8} {
		if c.Number(n) != 0 || c.Bytes(n) != nil || c.Field(n) != "" || c.Text(n) != "" {
			t.Errorf("%s: something is taken by %d", what, n)
		}
		c.Seek(n)
		c.Fail()
		if c.At() != at || c.Left() != left || c.Err() != err {
			t.Errorf("%s: after %d at %d, %d left (%v); before at %d, %d left (%v)", what, n, c.At(), c.Left(), c.Err(), at, left, err)
		}
	}
}

func TestFailedCursorTakesNothing(t *testing.T) {
	for _, x := range []struct {
		what string
		fail func(c *cursor.Cursor)
	}{
		{"Fail", func(c *cursor.Cursor) { c.Fail() }},
		{"Number", func(c *cursor.Cursor) { c.Number(3) }},
		{"Number beyond", func(c *cursor.Cursor) { c.Seek(11); c.Number(8) }},
		{"Bytes", func(c *cursor.Cursor) { c.Bytes(99) }},
		{"Field", func(c *cursor.Cursor) { c.Field(99) }},
		{"Text", func(c *cursor.Cursor) { c.Text(0) }},
		{"Seek", func(c *cursor.Cursor) { c.Seek(99) }},
	} {
		c := cursor.New([]byte("abcdefgh\x00jk\x00"), false)
		x.fail(c)
		if c.Err() != api.ErrShort {
			t.Errorf("%s has not failed: %v", x.what, c.Err())
		}
		nothing(t, c, x.what)
	}
}

func TestNilCursor(t *testing.T) {
	var c *cursor.Cursor
	expect(t, c, "nil", 0, api.ErrNil)
	nothing(t, c, "nil")
}

func TestZeroCursor(t *testing.T) {
	for _, x := range []struct {
		what string
		c    *cursor.Cursor
	}{
		{"zero", &cursor.Cursor{}},
		{"of nil", cursor.New(nil, false)},
		{"of no bytes", cursor.New([]byte{}, false)},
	} {
		expect(t, x.c, x.what, 0, api.OK)
		x.c.Seek(0)
		if len(x.c.Bytes(0)) != 0 || x.c.Field(0) != "" || x.c.Left() != 0 {
			t.Errorf("%s has bytes", x.what)
		}
		expect(t, x.c, x.what, 0, api.OK)
		if n := x.c.Number(1); n != 0 {
			t.Errorf("%s has a number: %d", x.what, n)
		}
		expect(t, x.c, x.what, 0, api.ErrShort)
		nothing(t, x.c, x.what)
	}
}
