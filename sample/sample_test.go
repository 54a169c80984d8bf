package sample

import (
	"math/rand"
	"testing"

	"weir/api"
	"weir/ast"
	"weir/fault"
)

// What is drawn is right, and of all kinds; a spoilt tree is mostly not.
func TestRight(t *testing.T) {
	d := Draw(rand.New(rand.NewSource(1970)).Intn)
	ops, fills := map[api.Op]int{}, map[api.FillKind]int{}
	spoilt := 0
	for range 3000 {
		sum, cond, q := d.Sum(1+d(6)), d.Cond(1+d(6)), d.Query()
		if err := ast.Sum(sum); err != nil {
			t.Fatalf("%v: %v", sum, err)
		}
		if err := ast.Cond(cond); err != nil {
			t.Fatalf("%v: %v", cond, err)
		}
		if err := ast.Right(q); err != nil && fault.Code(err) != api.ErrLong {
			t.Fatalf("%v: %v", q, err)
		}
		if ast.Sum(d.Spoil(sum)) != nil {
			spoilt++
		}
		fills[q.Fill]++
		for _, n := range append(sum, cond...) {
			ops[n.Op]++
		}
	}
	if len(ops) != 24 || len(fills) != 3 || spoilt < 1000 {
		t.Errorf("%d kinds of nodes, %d fillings, %d spoilt trees", len(ops), len(fills), spoilt)
	}
}
