package plan

import (
	"math/rand"
	"testing"

	"weir/api"
	"weir/ast"
	"weir/expect"
	"weir/sample"
)

// fails holds an error without a place against a number and an index.
func fails(t *testing.T, what any, err error, e api.Errno, index int) {
	t.Helper()
	if wrong := expect.Wrong(err, e, expect.None, index); wrong != "" {
		t.Errorf("%.300v: %v: %s", what, err, wrong)
	}
}

// draw draws from a source with a fixed seed, so that each run draws the same.
func draw() sample.Draw { return rand.New(rand.NewSource(1970)).Intn }

// made is what a call makes of something, without an error.
func made[A, B any](t *testing.T, call func(A) (B, error), of A) B {
	t.Helper()
	b, err := call(of)
	fails(t, of, err, 0, expect.None)
	return b
}

// asked draws a query that has a plan.
func asked(d sample.Draw) api.Query {
	for {
		q := d.Query()
		for i := range q.Items {
			item := &q.Items[i]
			item.Alias.Text = sample.One(d, "a", "b", "c", "d", d.Name()) + string(rune('0'+i))
			if len(ast.Calls(item.Tree)) == 0 || d(3) == 0 {
				item.Tree = sample.Over(sample.One(d, api.OpAdd, api.OpMul), d.Sum(1+d(5)), []api.Node{sample.Call(api.Func(1+d(8)), sample.One(d, "v", "w"))})
			}
			for j := range item.Tree {
				item.Tree[j].Pos = d(99)
			}
			item.Alias.Text = item.Alias.Text[max(0, len(item.Alias.Text)-api.MaxName):]
		}
		for i := range q.Where {
			q.Where[i].Pos = d(99)
		}
		if ast.Right(q) == nil {
			return q
		}
	}
}
