package cursor_test

import (
	"math"
	"math/big"
	"testing"

	"clevis/api"
	"clevis/cursor"
)

// P1.3 (Add, Mul, Within, Meet)

const top = math.MaxUint64

// edges are numbers at and around where sums and products leave 64 bits.
func edges() []uint64 {
	return []uint64{0, 1, 2, 3, 5, 17, 641, 6700417, 1<<31 - 1, 1 << 31, 1<<32 - 1, 1 << 32, 1<<32 + 1,
		1<<33 - 1, 1<<47 - 1, 1 << 47, 1<<63 - 1, 1 << 63, 1<<63 + 1, top / 3, top / 2, top - 2, top - 1, top}
}

// exact is what a reckoning without bounds comes to, if it has room.
func exact(reckon func(z, x, y *big.Int) *big.Int, a, b uint64) (uint64, bool) {
	z := reckon(new(big.Int), new(big.Int).SetUint64(a), new(big.Int).SetUint64(b))
	if !z.IsUint64() {
		return 0, false
	}
	return z.Uint64(), true
}

func TestAddAndMulAtTheirEdges(t *testing.T) {
	for _, a := range edges() {
		for _, b := range edges() {
			sum, is := cursor.Add(a, b)
			if want, has := exact((*big.Int).Add, a, b); sum != want || is != has {
				t.Errorf("Add(%d, %d) is %d, %v; want %d, %v", a, b, sum, is, want, has)
			}
			product, is := cursor.Mul(a, b)
			if want, has := exact((*big.Int).Mul, a, b); product != want || is != has {
				t.Errorf("Mul(%d, %d) is %d, %v; want %d, %v", a, b, product, is, want, has)
			}
		}
	}
}

func TestWithin(t *testing.T) {
	for _, x := range []struct {
		off, size, all uint64
		want           bool
	}{
		{0, 0, 0, true},
		{0, 1, 0, false},
		{1, 0, 0, false},
		{5, 0, 5, true},
		{5, 1, 5, false},
		{4, 1, 5, true},
		{0, 5, 5, true},
		{2, 2, 5, true},
		{6, 0, 5, false},
		{top, 0, top, true},
		{0, top, top, true},
		{top - 1, 1, top, true},
		{top, 1, top, false},
		{1, top, top, false},
		{top, 2, top, false},
		{top, top, top, false},
		{top, 2, 5, false},
		{1 << 63, 1 << 63, 5, false},
	} {
		if got := cursor.Within(x.off, x.size, x.all); got != x.want {
			t.Errorf("Within(%d, %d, %d) is %v", x.off, x.size, x.all, got)
		}
	}
}

func TestMeet(t *testing.T) {
	for _, x := range []struct {
		a, b api.Span
		want bool
	}{
		{api.Span{Off: 2, Size: 3}, api.Span{Off: 5, Size: 1}, false},
		{api.Span{Off: 2, Size: 4}, api.Span{Off: 5, Size: 1}, true},
		{api.Span{Off: 2, Size: 3}, api.Span{Off: 2, Size: 3}, true},
		{api.Span{Off: 0, Size: 9}, api.Span{Off: 4, Size: 1}, true},
		{api.Span{Off: 0, Size: 1}, api.Span{Off: 8, Size: 1}, false},
		{api.Span{Off: 2, Size: 0}, api.Span{Off: 0, Size: 9}, false},
		{api.Span{Off: 2, Size: 0}, api.Span{Off: 2, Size: 0}, false},
		{api.Span{Off: 2, Size: 0}, api.Span{Off: 2, Size: 4}, false},
		{api.Span{}, api.Span{}, false},
		{api.Span{Off: 0, Size: top}, api.Span{Off: top - 1, Size: 1}, true},
		{api.Span{Off: 0, Size: top - 1}, api.Span{Off: top - 1, Size: 1}, false},
		{api.Span{Off: 1, Size: top}, api.Span{Off: 5, Size: 1}, false},
		{api.Span{Off: top, Size: 2}, api.Span{Off: 0, Size: 1}, false},
		{api.Span{Off: top, Size: 2}, api.Span{Off: top - 1, Size: 1}, false},
		{api.Span{Off: 5, Size: top}, api.Span{Off: 5, Size: top}, false},
		{api.Span{Off: 1 << 63, Size: 1 << 63}, api.Span{Off: 1 << 63, Size: 1}, false},
	} {
		if cursor.Meet(x.a, x.b) != x.want || cursor.Meet(x.b, x.a) != x.want {
			t.Errorf("Meet of %v and %v, either way round: %v, %v; want %v", x.a, x.b, cursor.Meet(x.a, x.b), cursor.Meet(x.b, x.a), x.want)
		}
	}
}

// Small spans are held against what they have byte by byte.
func TestMeetByteByByte(t *testing.T) {
	has := func(s api.Span, n uint64) bool { return n >= s.Off && n < s.Off+s.Size }
	for i := range uint64(5 * 5 * 5 * 5) {
		a, b := api.Span{Off: i % 5, Size: i / 5 % 5}, api.Span{Off: i / 25 % 5, Size: i / 125}
		want := false
		for n := range uint64(10) {
			want = want || has(a, n) && has(b, n)
		}
		if cursor.Meet(a, b) != want {
			t.Errorf("Meet of %v and %v is not %v", a, b, want)
		}
	}
}
