package sample

import (
	"math"
	"testing"

	"weir/api"
)

func told(n int64) api.Told { return api.Told{Some: true, Value: api.Value{N: n}} }

// DOC.md's words on what an operator tells, at their edges.
func TestOperators(t *testing.T) {
	over, void := api.Told{Some: true, Value: api.Value{Kind: api.Over}}, api.Told{Some: true, Value: api.Value{Kind: api.Void}}
	for _, c := range []struct {
		op         api.Op
		a, b, want api.Told
	}{
		{api.OpAdd, told(2), told(3), told(5)},
		{api.OpAdd, told(math.MaxInt64), told(1), over},
		{api.OpSub, told(math.MinInt64), told(1), over},
		{api.OpSub, told(2), told(3), told(-1)},
		{api.OpMul, told(1 << 62), told(2), over},
		{api.OpMul, told(1 << 62), told(-2), told(math.MinInt64)},
		{api.OpDiv, told(7), told(2), told(3)},
		{api.OpDiv, told(-7), told(2), told(-4)},
		{api.OpDiv, told(7), told(-2), told(-4)},
		{api.OpDiv, told(math.MinInt64), told(-1), over},
		{api.OpMod, told(-7), told(2), told(1)},
		{api.OpMod, told(7), told(-2), told(-1)},
		{api.OpMod, told(-7), told(-2), told(-1)},
		{api.OpMod, told(6), told(-2), told(0)},
		{api.OpDiv, told(1), told(0), void},
		{api.OpMod, told(1), told(0), void},
		{api.OpDiv, over, told(0), over},
		{api.OpDiv, void, over, over},
		{api.OpAdd, told(1), void, void},
		{api.OpAdd, over, api.Told{}, api.Told{}},
		{api.OpAdd, api.Told{}, void, api.Told{}},
	} {
		if got := Operator(c.op, c.a, c.b); got != c.want {
			t.Errorf("%d of %v and %v: %v, not %v", c.op, c.a, c.b, got, c.want)
		}
	}
	if got := Operator(api.OpNeg, told(math.MinInt64)); got != over {
		t.Errorf("%v", got)
	}
	tree := Over(api.OpSub, []api.Node{Call(api.Max, "v")}, Over(api.OpNeg, []api.Node{Int(5)}))
	if got := Tell(tree, func(n api.Node) api.Told { return told(int64(len(n.S))) }); got != told(6) {
		t.Errorf("%v", got)
	}
}
