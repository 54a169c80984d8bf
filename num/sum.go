package num

import (
	"math/bits"

	"weir/api"
	"weir/fault"
)

// Plus is a sum and a number more.
func Plus(s api.Sum, n int64) api.Sum {
	m := wide(n)
	lo, carry := bits.Add64(s.Lo, m.Lo, 0)
	return api.Sum{Hi: s.Hi + m.Hi + int64(carry), Lo: lo}
}

// Minus is a sum and a number less.
func Minus(s api.Sum, n int64) api.Sum { return less(s, wide(n)) }

// Compare tells which of two sums is smaller.
func Compare(a, b api.Sum) int {
	if a == b {
		return 0
	}
	if a.Hi < b.Hi || a.Hi == b.Hi && a.Lo < b.Lo {
		return -1
	}
	return 1
}

// Small is a sum as an int64.
func Small(s api.Sum) (int64, error) {
	n := int64(s.Lo)
	if wide(n) != s {
		return 0, fault.New(api.ErrOver)
	}
	return n, nil
}

// Ratio is a sum by a number, rounded down.
func Ratio(s api.Sum, n int64) (int64, error) {
	if n == 0 {
		return 0, fault.New(api.ErrZero)
	}
	top, by := size(s), size(wide(n)).Lo
	if uint64(top.Hi) >= by {
		// The quotient has more than 64 bits, and bits.Div64 would panic.
		return 0, fault.New(api.ErrOver)
	}
	lo, rest := bits.Div64(uint64(top.Hi), top.Lo, by)
	quotient := api.Sum{Lo: lo}
	if (s.Hi < 0) != (n < 0) {
		quotient = less(api.Sum{}, quotient)
		if rest != 0 {
			quotient = Minus(quotient, 1)
		}
	}
	return Small(quotient)
}

// wide is a number as a sum.
func wide(n int64) api.Sum { return api.Sum{Hi: n >> 63, Lo: uint64(n)} }

func less(a, b api.Sum) api.Sum {
	lo, borrow := bits.Sub64(a.Lo, b.Lo, 0)
	return api.Sum{Hi: a.Hi - b.Hi - int64(borrow), Lo: lo}
}

// size is a sum without its sign. Of -2^127 it is 2^127, which is right as
// long as Hi is read as a number without sign.
func size(s api.Sum) api.Sum {
	if s.Hi < 0 {
		return less(api.Sum{}, s)
	}
	return s
}
