// Package num reckons with int64 and with sums of 128 bits. See ../../shared/doc/02-num.md.
package num

import (
	"math/bits"

	"weir/api"
	"weir/fault"
)

// Numbers are reckoned as sums, which have room for what two of them make;
// so it is Small alone that tells what is outside int64.

// Add is the sum.
func Add(a, b int64) (int64, error) { return Small(Plus(wide(a), b)) }

// Sub is the difference.
func Sub(a, b int64) (int64, error) { return Small(Minus(wide(a), b)) }

// Mul is the product.
func Mul(a, b int64) (int64, error) { return Small(product(a, b)) }

// Neg is the opposite.
func Neg(a int64) (int64, error) { return Sub(0, a) }

// Div is the quotient, rounded down.
func Div(a, b int64) (int64, error) { return Ratio(wide(a), b) }

// Mod is what is left then.
func Mod(a, b int64) (int64, error) {
	if b == 0 {
		return 0, fault.New(api.ErrZero)
	}
	m := a % b
	// Go rounds towards 0, so that what is left has a's sign there.
	if m != 0 && (m < 0) != (b < 0) {
		m += b
	}
	return m, nil
}

// product reads both numbers as if they had no sign: 2^64 is too much in each
// that is below 0, and so the other one is, 2^64 times.
func product(a, b int64) api.Sum {
	hi, lo := bits.Mul64(uint64(a), uint64(b))
	high := int64(hi)
	if a < 0 {
		high -= b
	}
	if b < 0 {
		high -= a
	}
	return api.Sum{Hi: high, Lo: lo}
}
