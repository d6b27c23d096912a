package leb_test

import (
	"bytes"
	"math"
	"math/big"
	"testing"

	"clevis/api"
	"clevis/cursor"
	"clevis/leb"
)

// P2.1 (Uleb, Sleb)

// told is a number, as it is taken: its value (both kinds of numbers have room there), how many bytes it has; 0: none stands there.
type told struct {
	n    *big.Int
	size int
}

// take is a call that takes a number.
type take struct {
	what string
	do   func(c *cursor.Cursor) *big.Int
	// want tells what the document says of bytes.
	want func(b []byte) told
}

func takes() []take {
	return []take{
		{"Uleb", func(c *cursor.Cursor) *big.Int { return new(big.Int).SetUint64(leb.Uleb(c)) }, wantPlain},
		{"Sleb", func(c *cursor.Cursor) *big.Int { return big.NewInt(leb.Sleb(c)) }, wantSigned},
	}
}

// groupsOf are the groups of the number that bytes begin with, as one of any size, and how many there are.
func groupsOf(b []byte) told {
	n := new(big.Int)
	for i := 0; i < len(b) && i < 10; i++ {
		n.Add(n, new(big.Int).Lsh(big.NewInt(int64(b[i]%128)), uint(7*i)))
		if b[i] < 128 {
			return told{n, i + 1}
		}
	}
	return told{new(big.Int), 0}
}

func wantPlain(b []byte) told {
	x := groupsOf(b)
	if !x.n.IsUint64() {
		return told{new(big.Int), 0}
	}
	return x
}

func wantSigned(b []byte) told {
	x := groupsOf(b)
	if x.size > 0 && b[x.size-1] >= 64 {
		x.n.Sub(x.n, new(big.Int).Lsh(big.NewInt(1), uint(7*x.size)))
	}
	if !x.n.IsInt64() {
		return told{new(big.Int), 0}
	}
	return x
}

// check takes a number from the place on where the front ends, and holds it and the cursor against what is wanted.
func check(t *testing.T, x take, front, b []byte, want told) {
	t.Helper()
	for _, high := range []bool{false, true} {
		c := cursor.New(append(bytes.Clone(front), b...), high)
		c.Seek(len(front))
		n := x.do(c)
		err := api.OK
		if want.size == 0 {
			err = api.ErrShort
		}
		if n.Cmp(want.n) != 0 || c.At() != len(front)+want.size || c.Err() != err {
			t.Fatalf("%s of % x behind %d bytes (big %v): %v, at %d (%v), want %v, over %d", x.what, b, len(front), high, n, c.At(), c.Err(), want.n, want.size)
		}
	}
}

// checkAll checks both calls against what the document says, the number standing first and further on.
func checkAll(t *testing.T, b []byte) {
	t.Helper()
	for _, x := range takes() {
		check(t, x, nil, b, x.want(b))
		check(t, x, []byte{255, 255, 1}, b, x.want(b))
	}
}

func TestTheDocumentsExamples(t *testing.T) {
	for _, x := range []struct {
		b      []byte
		plain  uint64
		signed int64
		size   int
	}{
		{[]byte{127}, 127, -1, 1},
		{[]byte{229, 142, 38}, 624485, 624485, 3},
		{[]byte{128, 128, 0}, 0, 0, 3},
		{append(bytes.Repeat([]byte{255}, 9), 2), 0, 0, 0},
	} {
		check(t, takes()[0], nil, x.b, told{new(big.Int).SetUint64(x.plain), x.size})
		check(t, takes()[1], nil, x.b, told{big.NewInt(x.signed), x.size})
	}
}

func TestUlebOfKnownBytes(t *testing.T) {
	nine := func(b, last byte) []byte { return append(bytes.Repeat([]byte{b}, 9), last) }
	for _, x := range []struct {
		b    []byte
		want uint64
		size int
	}{
		{[]byte{0}, 0, 1},
		{[]byte{1}, 1, 1},
		{[]byte{64}, 64, 1},
		{[]byte{128, 1}, 128, 2},
		{[]byte{255, 127}, 1<<14 - 1, 2},
		{[]byte{128, 128, 1}, 1 << 14, 3},
		{[]byte{127, 9}, 127, 1},
		{[]byte{128, 0, 255}, 0, 2},
		{append(bytes.Repeat([]byte{255}, 8), 127), 1<<63 - 1, 9},
		{nine(255, 0), 1<<63 - 1, 10},
		{nine(128, 1), 1 << 63, 10},
		{nine(255, 1), math.MaxUint64, 10},
		{nine(128, 0), 0, 10},
		{nine(128, 2), 0, 0},
		{nine(255, 3), 0, 0},
		{nine(255, 127), 0, 0},
		{nine(128, 128), 0, 0},
		{nine(128, 129), 0, 0},
	} {
		check(t, takes()[0], []byte{7}, x.b, told{new(big.Int).SetUint64(x.want), x.size})
	}
}

func TestSlebOfKnownBytes(t *testing.T) {
	nine := func(b, last byte) []byte { return append(bytes.Repeat([]byte{b}, 9), last) }
	for _, x := range []struct {
		b    []byte
		want int64
		size int
	}{
		{[]byte{0}, 0, 1},
		{[]byte{63}, 63, 1},
		{[]byte{64}, -64, 1},
		{[]byte{127}, -1, 1},
		{[]byte{192, 0}, 64, 2},
		{[]byte{191, 127}, -65, 2},
		{[]byte{255, 63}, 1<<13 - 1, 2},
		{[]byte{128, 64}, -1 << 13, 2},
		{[]byte{192, 127, 0}, -64, 2},
		{append(bytes.Repeat([]byte{255}, 8), 63), 1<<62 - 1, 9},
		{append(bytes.Repeat([]byte{128}, 8), 64), -1 << 62, 9},
		{append(bytes.Repeat([]byte{255}, 8), 127), -1, 9},
		{nine(255, 0), math.MaxInt64, 10},
		{nine(128, 127), math.MinInt64, 10},
		{nine(255, 127), -1, 10},
		{nine(128, 0), 0, 10},
		{nine(128, 1), 0, 0},
		{nine(255, 1), 0, 0},
		{nine(128, 63), 0, 0},
		{nine(128, 64), 0, 0},
		{nine(255, 126), 0, 0},
		{nine(255, 255), 0, 0},
	} {
		check(t, takes()[1], []byte{7}, x.b, told{big.NewInt(x.want), x.size})
	}
}

func TestAllRowsOfTwoBytes(t *testing.T) {
	checkAll(t, nil)
	for i := range 256 {
		checkAll(t, []byte{byte(i)})
		for j := range 256 {
			checkAll(t, []byte{byte(i), byte(j)})
		}
	}
}

func TestEachLastByteAtEachPlace(t *testing.T) {
	for _, group := range []byte{128, 129, 170, 191, 192, 213, 254, 255} {
		for size := range 13 {
			for last := range 256 {
				checkAll(t, append(bytes.Repeat([]byte{group}, size), byte(last)))
			}
		}
	}
}

func TestBytesThatEndTooSoon(t *testing.T) {
	for size := range 13 {
		for _, group := range []byte{128, 255} {
			for _, x := range takes() {
				check(t, x, nil, bytes.Repeat([]byte{group}, size), told{new(big.Int), 0})
				check(t, x, []byte{1, 2}, bytes.Repeat([]byte{group}, size), told{new(big.Int), 0})
			}
		}
	}
}

func TestNumbersOneBehindTheOther(t *testing.T) {
	c := cursor.New([]byte{229, 142, 38, 127, 127, 128, 128, 0, 192, 187, 120}, false)
	if n := leb.Uleb(c); n != 624485 || c.At() != 3 {
		t.Errorf("first: %d, at %d", n, c.At())
	}
	if n := leb.Sleb(c); n != -1 || c.At() != 4 {
		t.Errorf("second: %d, at %d", n, c.At())
	}
	if n := leb.Uleb(c); n != 127 || c.At() != 5 {
		t.Errorf("third: %d, at %d", n, c.At())
	}
	if n := leb.Sleb(c); n != 0 || c.At() != 8 {
		t.Errorf("fourth: %d, at %d", n, c.At())
	}
	if n := leb.Sleb(c); n != -123456 || c.At() != 11 || c.Err() != api.OK {
		t.Errorf("fifth: %d, at %d (%v)", n, c.At(), c.Err())
	}
	if n := leb.Uleb(c); n != 0 || c.At() != 11 || c.Err() != api.ErrShort {
		t.Errorf("at the end: %d, at %d (%v)", n, c.At(), c.Err())
	}
}
