package sample

import (
	"math/big"
	"slices"

	"weir/api"
)

// Whole tells a whole number: a mark, where it is outside int64, or none (nil: a division by 0).
func Whole(n *big.Int) api.Told {
	switch {
	case n == nil:
		return api.Told{Some: true, Value: api.Value{Kind: api.Void}}
	case !n.IsInt64():
		return api.Told{Some: true, Value: api.Value{Kind: api.Over}}
	}
	return api.Told{Some: true, Value: api.Value{N: n.Int64()}}
}

// Reckoned is what an operator of whole numbers is; nil: a division by 0.
func Reckoned(op api.Op, of ...*big.Int) *big.Int {
	n, last := new(big.Int), of[len(of)-1]
	switch op {
	case api.OpNeg:
		return n.Neg(last)
	case api.OpAdd:
		return n.Add(of[0], last)
	case api.OpSub:
		return n.Sub(of[0], last)
	case api.OpMul:
		return n.Mul(of[0], last)
	}
	if last.Sign() == 0 {
		return nil
	}
	// Rounded down, what is left has the second one's sign.
	left := new(big.Int).Mod(of[0], last)
	if left.Sign() != 0 && last.Sign() < 0 {
		left.Add(left, last)
	}
	if op == api.OpMod {
		return left
	}
	return n.Quo(n.Sub(of[0], left), last)
}

// Operator is what an operator tells of what its operands tell.
func Operator(op api.Op, of ...api.Told) api.Told {
	var numbers []*big.Int
	for _, one := range of {
		if !one.Some {
			return api.Told{}
		}
		numbers = append(numbers, big.NewInt(one.Value.N))
	}
	for _, mark := range []api.ValueKind{api.Over, api.Void} {
		if slices.ContainsFunc(of, func(one api.Told) bool { return one.Value.Kind == mark }) {
			return api.Told{Some: true, Value: api.Value{Kind: mark}}
		}
	}
	return Whole(Reckoned(op, numbers...))
}

// Tell is what a right sum tells, if each of its leaves but numbers tells what leaf says.
func Tell(l []api.Node, leaf func(n api.Node) api.Told) api.Told {
	told, _ := tell(l, leaf)
	return told
}

// tell is Tell of the tree with which nodes begin, and what is left behind it.
func tell(l []api.Node, leaf func(n api.Node) api.Told) (api.Told, []api.Node) {
	top, rest := l[0], l[1:]
	switch {
	case top.Op == api.OpInt:
		return Whole(big.NewInt(top.N)), rest
	case top.Kids == 0:
		return leaf(top), rest
	}
	var of []api.Told
	for range top.Kids {
		var one api.Told
		one, rest = tell(rest, leaf)
		of = append(of, one)
	}
	return Operator(top.Op, of...), rest
}
