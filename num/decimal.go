package num

import (
	"math/bits"
	"strings"

	"weir/api"
	"weir/fault"
)

// mostDigits is how many digits the greatest sums have: 2^127 is about 1.7 times 10^38.
const mostDigits = 39

// Print is a sum in decimal.
func Print(s api.Sum) string {
	var text [1 + mostDigits]byte
	rest := size(s)
	at := len(text)
	for at == len(text) || rest != (api.Sum{}) {
		at--
		var digit byte
		rest, digit = tenth(rest)
		text[at] = '0' + digit
	}
	if s.Hi < 0 {
		at--
		text[at] = '-'
	}
	out := make([]byte, len(text)-at)
	copy(out, text[at:])
	return string(out)
}

// Parse reads one.
func Parse(s string) (api.Sum, error) {
	digits, below := strings.CutPrefix(s, "-")
	if len(digits) > mostDigits {
		return api.Sum{}, fault.New(api.ErrForm)
	}
	var sum api.Sum
	for i := range len(digits) {
		sum = Plus(tenfold(sum), int64(digits[i])-'0')
	}
	if below {
		sum = less(api.Sum{}, sum)
	}
	// Whatever is wrong (bytes that are no digits, needless zeros, a number
	// that went round), what was reckoned prints otherwise than it was read.
	if Print(sum) != s {
		return api.Sum{}, fault.New(api.ErrForm)
	}
	return sum, nil
}

// tenth is a sum without sign by 10, and the digit that is left.
func tenth(s api.Sum) (api.Sum, byte) {
	hi := uint64(s.Hi)
	lo, digit := bits.Div64(hi%10, s.Lo, 10)
	return api.Sum{Hi: int64(hi / 10), Lo: lo}, byte(digit)
}

func tenfold(s api.Sum) api.Sum {
	carry, lo := bits.Mul64(s.Lo, 10)
	return api.Sum{Hi: s.Hi*10 + int64(carry), Lo: lo}
}
