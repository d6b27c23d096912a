package leb_test

import (
	"bytes"
	"math/big"
	"testing"

	"clevis/api"
	"clevis/cursor"
	"clevis/leb"
)

// P2.3 (what follows)

// behinds are bytes that may stand behind a number.
func behinds() [][]byte {
	return [][]byte{nil, {0}, {1}, {127}, {128}, {255}, {128, 0}, bytes.Repeat([]byte{255}, 20), leb.Put(1 << 40)}
}

// plain and signed are what is wanted of a number, and of its bytes.
func plain(n uint64, size int) told { return told{new(big.Int).SetUint64(n), size} }

func signed(n int64, size int) told { return told{big.NewInt(n), size} }

func TestWhatWasPutIsTaken(t *testing.T) {
	uleb, sleb := takes()[0], takes()[1]
	for _, n := range numbers() {
		for _, behind := range behinds() {
			b := leb.Put(n)
			check(t, uleb, []byte{128}, append(bytes.Clone(b), behind...), plain(n, len(b)))
			b = leb.PutSigned(int64(n))
			check(t, sleb, []byte{128}, append(bytes.Clone(b), behind...), signed(int64(n), len(b)))
		}
	}
}

// padded is a number's bytes with groups of nothing (of fill) behind them, so many in all.
func padded(b []byte, fill byte, size int) []byte {
	b = bytes.Clone(b)
	for len(b) < size {
		b[len(b)-1] |= 128
		b = append(b, fill)
	}
	return b
}

func TestGroupsOfNothingBehind(t *testing.T) {
	uleb, sleb := takes()[0], takes()[1]
	for _, n := range numbers() {
		b := leb.Put(n)
		for size := len(b); size <= 10; size++ {
			check(t, uleb, nil, padded(b, 0, size), plain(n, size))
		}
		check(t, uleb, nil, padded(b, 0, 11), plain(0, 0))
		b = leb.PutSigned(int64(n))
		// What means nothing behind a number below 0 are its signs.
		var fill byte
		if int64(n) < 0 {
			fill = 127
		}
		for size := len(b); size <= 10; size++ {
			check(t, sleb, nil, padded(b, fill, size), signed(int64(n), size))
		}
		check(t, sleb, nil, padded(b, fill, 11), signed(0, 0))
	}
}

// TestNoNumberBeginsAnotherOne: wherever a number stands, no fewer bytes of it are one, and it ends there whatever stands behind it.
func TestNoNumberBeginsAnotherOne(t *testing.T) {
	for _, n := range numbers() {
		for _, b := range [][]byte{leb.Put(n), leb.PutSigned(int64(n)), padded(leb.Put(n), 0, 10)} {
			for size := range b {
				for _, x := range takes() {
					check(t, x, nil, b[:size], told{new(big.Int), 0})
				}
			}
		}
	}
}

// TestNoNumberBeginsAnotherOneAmongAll: of all numbers' bytes that have at most two, held against one another.
func TestNoNumberBeginsAnotherOneAmongAll(t *testing.T) {
	for _, x := range takes() {
		var begun [256]bool
		for i := range 256 {
			_, begun[i] = size(x, []byte{byte(i)})
		}
		for i := range 1 << 16 {
			b := []byte{byte(i), byte(i >> 8)}
			if n, is := size(x, b); is && n == 2 && begun[b[0]] {
				t.Errorf("%s: % x is the beginning of % x", x.what, b[:1], b)
			}
		}
	}
}

// size is how many bytes the number has that is taken; does one stand there?
func size(x take, b []byte) (int, bool) {
	c := cursor.New(b, false)
	x.do(c)
	return c.At(), c.Err() == api.OK
}
