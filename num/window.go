package num

import (
	"math/bits"

	"weir/api"
	"weir/fault"
)

// Window is the beginning of the window in which a time lies.
func Window(t, every, offset int64) (int64, error) {
	if every < 1 || offset < 0 || offset >= every {
		return 0, fault.New(api.ErrRange)
	}
	// Not of t - offset, which may be outside int64; and every is not 0 here.
	into, _ := Mod(t, every)
	into -= offset
	if into < 0 {
		into += every
	}
	return Sub(t, into)
}

// Log is the greatest power of 2 that is not above a number, by its exponent.
func Log(n int) int {
	if n < 1 {
		return 0
	}
	return bits.Len(uint(n)) - 1
}
