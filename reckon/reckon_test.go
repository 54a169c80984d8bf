package reckon

import (
	"math"
	"testing"

	"weir/api"
	"weir/num"
	"weir/sample"
)

// some is what may be told, at the edges of int64 too.
func some() []api.Told {
	l := []api.Told{{}, {Some: true, Value: api.Value{Kind: api.Over}}, {Some: true, Value: api.Value{Kind: api.Void}}}
	for _, n := range []int64{0, 1, -1, 2, -2, 7, -7, 1 << 31, 1 << 32, -1 << 32, 1 << 62, -1 << 62, math.MaxInt64, math.MinInt64, math.MinInt64 + 1} {
		l = append(l, Int(n))
	}
	return l
}

// DOC.md's words on operators, told anew by package sample with numbers without bounds.
func TestOperators(t *testing.T) {
	for op, call := range map[api.Op]func(a, b api.Told) api.Told{
		api.OpAdd: Add, api.OpSub: Sub, api.OpMul: Mul, api.OpDiv: Div, api.OpMod: Mod,
	} {
		for _, a := range some() {
			for _, b := range some() {
				if got, want := call(a, b), sample.Operator(op, a, b); got != want {
					t.Errorf("%d of %v and %v: %v, not %v", op, a, b, got, want)
				}
			}
		}
	}
	for _, a := range some() {
		if got, want := Neg(a), sample.Operator(api.OpNeg, a); got != want {
			t.Errorf("the opposite of %v: %v, not %v", a, got, want)
		}
	}
}

func TestOf(t *testing.T) {
	over, void := api.Told{Some: true, Value: api.Value{Kind: api.Over}}, api.Told{Some: true, Value: api.Value{Kind: api.Void}}
	if got := Of(num.Small(api.Sum{Lo: 1 << 63})); got != over {
		t.Errorf("%v", got)
	}
	if got := Of(num.Ratio(api.Sum{Lo: 7}, 0)); got != void {
		t.Errorf("%v", got)
	}
	if got := Of(num.Ratio(api.Sum{Hi: 1}, 1)); got != over {
		t.Errorf("%v", got)
	}
	if got := Of(num.Ratio(api.Sum{Hi: -1, Lo: math.MaxUint64 - 6}, 2)); got != Int(-4) {
		t.Errorf("%v", got)
	}
	if got := Int(-9); got != (api.Told{Some: true, Value: api.Value{Kind: api.Int, N: -9}}) {
		t.Errorf("%v", got)
	}
}
