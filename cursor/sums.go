package cursor

import (
	"math/bits"

	"clevis/api"
)

// Add is a sum, if it is not beyond 2^64 - 1.
func Add(a, b uint64) (uint64, bool) {
	sum, carry := bits.Add64(a, b, 0)
	if carry != 0 {
		return 0, false
	}
	return sum, true
}

// Mul is a product, if it is not beyond 2^64 - 1.
func Mul(a, b uint64) (uint64, bool) {
	high, product := bits.Mul64(a, b)
	if high != 0 {
		return 0, false
	}
	return product, true
}

// Within: do size bytes from off on end at, or ahead of, all?
func Within(off, size, all uint64) bool {
	end, is := Add(off, size)
	return is && end <= all
}

// Meet: have two spans a byte in common? One whose end is beyond 2^64 - 1 meets none.
func Meet(a, b api.Span) bool {
	endA, isA := Add(a.Off, a.Size)
	endB, isB := Add(b.Off, b.Size)
	return isA && isB && max(a.Off, b.Off) < min(endA, endB)
}
