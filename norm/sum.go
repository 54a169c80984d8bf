package norm

import (
	"math"

	"weir/api"
	"weir/num"
)

// reckoning are the rules by which what is certain of a sum is reckoned.
func reckoning() rules {
	return rules{
		api.OpNeg: negative,
		api.OpAdd: of(num.Add), api.OpSub: of(num.Sub), api.OpMul: of(num.Mul), api.OpDiv: of(num.Div), api.OpMod: of(num.Mod),
	}
}

// negative is the opposite of a number: each that stands in a right tree has one.
func negative(l []api.Node) []api.Node {
	if l[1].Op != api.OpInt {
		return l
	}
	return []api.Node{{Op: api.OpInt, N: -l[1].N}}
}

// of is the rule that reckons an operator of two numbers.
func of(reckon func(a, b int64) (int64, error)) rule {
	return func(l []api.Node) []api.Node {
		if l[1].Op != api.OpInt || l[2].Op != api.OpInt {
			return l
		}
		n, err := reckon(l[1].N, l[2].N)
		if err != nil || n == math.MinInt64 {
			return l
		}
		return []api.Node{{Op: api.OpInt, N: n}}
	}
}
