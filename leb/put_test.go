package leb_test

import (
	"bytes"
	"math"
	"math/bits"
	"slices"
	"testing"

	"clevis/api"
	"clevis/cursor"
	"clevis/leb"
)

// P2.2 (Put, PutSigned)

func TestPut(t *testing.T) {
	for _, x := range []struct {
		n    uint64
		want []byte
	}{
		{0, []byte{0}},
		{1, []byte{1}},
		{63, []byte{63}},
		{64, []byte{64}},
		{127, []byte{127}},
		{128, []byte{128, 1}},
		{16383, []byte{255, 127}},
		{16384, []byte{128, 128, 1}},
		{624485, []byte{229, 142, 38}},
		{1<<63 - 1, append(bytes.Repeat([]byte{255}, 8), 127)},
		{1 << 63, append(bytes.Repeat([]byte{128}, 9), 1)},
		{math.MaxUint64, append(bytes.Repeat([]byte{255}, 9), 1)},
	} {
		if b := leb.Put(x.n); !bytes.Equal(b, x.want) {
			t.Errorf("Put(%d) is %v, want %v", x.n, b, x.want)
		}
	}
}

func TestPutSigned(t *testing.T) {
	for _, x := range []struct {
		n    int64
		want []byte
	}{
		{0, []byte{0}},
		{1, []byte{1}},
		{-1, []byte{127}},
		{63, []byte{63}},
		{64, []byte{192, 0}},
		{-64, []byte{64}},
		{-65, []byte{191, 127}},
		{127, []byte{255, 0}},
		{128, []byte{128, 1}},
		{-128, []byte{128, 127}},
		{8191, []byte{255, 63}},
		{8192, []byte{128, 192, 0}},
		{-8192, []byte{128, 64}},
		{-8193, []byte{255, 191, 127}},
		{-123456, []byte{192, 187, 120}},
		{624485, []byte{229, 142, 38}},
		{1<<62 - 1, append(bytes.Repeat([]byte{255}, 8), 63)},
		{-1 << 62, append(bytes.Repeat([]byte{128}, 8), 64)},
		{1 << 62, append(bytes.Repeat([]byte{128}, 8), 192, 0)},
		{math.MaxInt64, append(bytes.Repeat([]byte{255}, 9), 0)},
		{math.MinInt64, append(bytes.Repeat([]byte{128}, 9), 127)},
	} {
		if b := leb.PutSigned(x.n); !bytes.Equal(b, x.want) {
			t.Errorf("PutSigned(%d) is %v, want %v", x.n, b, x.want)
		}
	}
}

// numbers are those about each power of two, and some more, as two's complement.
func numbers() []uint64 {
	l := []uint64{0, 5, 624485, 0x0123456789ABCDEF, 0xFEDCBA9876543210, 0x5555555555555555, 0xAAAAAAAAAAAAAAAA}
	for i := range 64 {
		for d := range uint64(5) {
			l = append(l, 1<<i+d-2, -(1<<i)+d-2)
		}
	}
	slices.Sort(l)
	return slices.Compact(l)
}

// endsOnce: is the last byte, and no other, below 128?
func endsOnce(b []byte) bool {
	for i, x := range b {
		if (x < 128) != (i == len(b)-1) {
			return false
		}
	}
	return len(b) > 0
}

func TestWhatIsPutIsTheShortest(t *testing.T) {
	for _, n := range numbers() {
		b := leb.Put(n)
		if want := max(1, (bits.Len64(n)+6)/7); len(b) != want || !endsOnce(b) {
			t.Errorf("Put(%d) is %v, want %d bytes", n, b, want)
		}
		if got := wantPlain(b).n; got.Uint64() != n {
			t.Errorf("Put(%d) is %v, which means %v", n, b, got)
		}
		s := int64(n)
		b = leb.PutSigned(s)
		// A bit for the sign beside those that are other ones than it.
		if want := (bits.Len64(uint64(s^s>>63)) + 1 + 6) / 7; len(b) != want || !endsOnce(b) {
			t.Errorf("PutSigned(%d) is %v, want %d bytes", s, b, want)
		}
		if got := wantSigned(b).n; got.Int64() != s {
			t.Errorf("PutSigned(%d) is %v, which means %v", s, b, got)
		}
	}
}

// TestNoFewerBytesMeanIt: of all rows of one and two bytes, none is shorter than what is put of the number that it means.
func TestNoFewerBytesMeanIt(t *testing.T) {
	for i := range 1 << 16 {
		b := []byte{byte(i), byte(i >> 8)}
		if x := wantPlain(b); x.size > 0 && len(leb.Put(x.n.Uint64())) > x.size {
			t.Errorf("Put(%v) has more bytes than % x", x.n, b[:x.size])
		}
		if x := wantSigned(b); x.size > 0 && len(leb.PutSigned(x.n.Int64())) > x.size {
			t.Errorf("PutSigned(%v) has more bytes than % x", x.n, b[:x.size])
		}
	}
}

func TestWhatIsPutIsNewMemory(t *testing.T) {
	for _, n := range []uint64{0, 300, math.MaxUint64} {
		first, signed := leb.Put(n), leb.PutSigned(int64(n))
		want, wantToo := bytes.Clone(first), bytes.Clone(signed)
		clear(first)
		clear(signed)
		_ = append(first[:0], 9, 9, 9)
		if b := leb.Put(n); !bytes.Equal(b, want) {
			t.Errorf("Put(%d) is %v afterwards, want %v", n, b, want)
		}
		if b := leb.PutSigned(int64(n)); !bytes.Equal(b, wantToo) {
			t.Errorf("PutSigned(%d) is %v afterwards, want %v", int64(n), b, wantToo)
		}
	}
}

func FuzzPut(f *testing.F) {
	for _, n := range []uint64{0, 63, 64, 127, 128, 1 << 62, 1 << 63, math.MaxUint64} {
		f.Add(n)
	}
	f.Fuzz(func(t *testing.T, n uint64) {
		c := cursor.New(append(leb.Put(n), leb.PutSigned(int64(n))...), false)
		u, s := leb.Uleb(c), leb.Sleb(c)
		if u != n || s != int64(n) || c.Left() != 0 || c.Err() != api.OK {
			t.Errorf("of %d: %d, %d, %d left (%v)", n, u, s, c.Left(), c.Err())
		}
	})
}
