// Package sat: saturating numbers of the game (layer 1).
package sat

import (
	"math"
	"math/bits"
)

// Clamp returns the number from 0 to a maximum that is next to a number.
func Clamp(n, most int) int {
	return max(0, min(n, most))
}

// Add returns a sum, clamped.
func Add(a, b, most int) int {
	return cut(total(a, b), most)
}

// Sub returns a difference, clamped.
func Sub(a, b, most int) int {
	if a <= b {
		return 0
	}
	// Unsigned numbers hold every difference that is above 0, even those that wrap as ints.
	return cut(uint64(a)-uint64(b), most)
}

// Times returns a product, clamped.
func Times(a, b, most int) int {
	if (a < 0) != (b < 0) {
		return 0
	}
	high, low := bits.Mul64(magnitude(a), magnitude(b))
	if high != 0 {
		low = math.MaxUint64
	}
	return cut(low, most)
}

// Dropped returns by how much a sum is above a maximum.
func Dropped(a, b, most int) int {
	sum, limit := total(a, b), natural(most)
	if sum <= limit {
		return 0
	}
	return cut(sum-limit, math.MaxInt)
}

// Sum returns the sum of numbers, clamped after each of them.
func Sum(l []int, most int) int {
	sum := 0
	for _, n := range l {
		sum = Add(sum, n, most)
	}
	return sum
}

// total returns the exact sum of two numbers, or 0 if it is below 0.
func total(a, b int) uint64 {
	switch {
	case a >= 0 && b >= 0:
		// At most 2^64 - 2, which an int does not hold but this does.
		return uint64(a) + uint64(b)
	case a < 0 && b < 0:
		return 0
	}
	// With different signs the sum cannot wrap.
	return natural(a + b)
}

// magnitude returns a number without its sign; the least int has one, too.
func magnitude(n int) uint64 {
	if n < 0 {
		return -uint64(n)
	}
	return uint64(n)
}

// natural returns a number, or 0 if it is below 0.
func natural(n int) uint64 {
	return uint64(max(0, n))
}

// cut returns the smaller one of a number and a maximum.
func cut(n uint64, most int) int {
	return int(min(n, natural(most)))
}
