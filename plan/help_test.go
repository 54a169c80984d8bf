package plan

import (
	"math/rand"
	"slices"
	"testing"

	"weir/api"
	"weir/ast"
	"weir/expect"
	"weir/sample"
)

// fails holds an error without a place against a number and an index.
func fails(t *testing.T, what any, err error, e api.Errno, index int) {
	t.Helper()
	if wrong := expect.Wrong(err, e, expect.None, index); wrong != "" {
		t.Errorf("%.300v: %v: %s", what, err, wrong)
	}
}

// draw draws from a source with a fixed seed, so that each run draws the same.
func draw() sample.Draw { return rand.New(rand.NewSource(1970)).Intn }

// made is what a call makes of something, without an error.
func made[A, B any](t *testing.T, call func(A) (B, error), of A) B {
	t.Helper()
	b, err := call(of)
	fails(t, of, err, 0, expect.None)
	return b
}

// acc is what an accumulator tells, neg a tree under so many OpNeg.
func acc(n int64) api.Node { return api.Node{Op: api.OpAcc, N: n} }

func neg(times int, l ...api.Node) []api.Node {
	return append(slices.Repeat([]api.Node{sample.Node(api.OpNeg, 1)}, times), l...)
}

// asked draws a query that has a plan.
func asked(d sample.Draw) api.Query {
	for {
		q := d.Query()
		for i := range q.Items {
			item := &q.Items[i]
			item.Alias.Text = sample.One(d, "a", "b", "c", "d", d.Name()) + string(rune('0'+i))
			if len(ast.Calls(item.Tree)) == 0 || d(3) == 0 {
				item.Tree = sample.Over(sample.One(d, api.OpAdd, api.OpMul), d.Sum(1+d(5)), []api.Node{sample.Call(api.Func(1+d(8)), sample.One(d, "v", "w"))})
			}
			for j := range item.Tree {
				item.Tree[j].Pos = d(99)
			}
			item.Alias.Text = item.Alias.Text[max(0, len(item.Alias.Text)-api.MaxName):]
		}
		for i := range q.Where {
			q.Where[i].Pos = d(99)
		}
		if ast.Right(q) == nil {
			return q
		}
	}
}

// accsOf are accumulators of all kinds, of few fields.
func accsOf(d sample.Draw) []api.Acc {
	var l []api.Acc
	for range 1 + d(9) {
		l = append(l, api.Acc{Func: sample.One(d, api.Count, api.TotalOf, api.Min, api.Max, api.First, api.Last), Field: sample.One(d, "v", "w", d.Name())})
	}
	return append(l, api.Acc{Func: api.TotalOf, Field: "v"}, api.Acc{Func: api.Count, Field: "v"}, api.Acc{Func: api.Count, Field: "w"})
}

// sumOf draws a plan's sum of accumulators, the last three of which are as accsOf says.
func sumOf(d sample.Draw, accs []api.Acc, levels int) []api.Node {
	var l []api.Node
	for _, n := range d.Sum(levels) {
		switch {
		case n.Op == api.OpInt && d(3) > 0:
			l = append(l, sample.Int(sample.One[int64](d, 0, 1, 2, -3, 10)))
		case n.Op != api.OpCall:
			l = append(l, n)
		case d(4) == 0:
			l = append(l, sample.Above(api.OpRatio, acc(int64(len(accs)-3)), acc(int64(len(accs)-2)))...)
		default:
			l = append(l, acc(int64(d(len(accs)))))
		}
	}
	for i := range l {
		l[i].Pos = d(99)
	}
	return l
}

// planOf draws a right plan.
func planOf(d sample.Draw) api.Plan {
	q := d.Query()
	p := api.Plan{From: q.From.Text, Into: q.Into.Text, Every: q.Every, Offset: q.Offset, Where: q.Where, Accs: accsOf(d)}
	for _, group := range q.Groups {
		p.Groups = append(p.Groups, group.Text)
	}
	for i := range 1 + d(4) {
		p.Outs = append(p.Outs, api.Out{Alias: string(rune('a' + i)), Tree: sumOf(d, p.Accs, 1+d(6))})
	}
	for i := range p.Where {
		p.Where[i].Pos = d(99)
	}
	return p
}

// copied is a plan in memory of its own, with what stands behind the ends of its lists.
func copied(p api.Plan) api.Plan {
	p.Groups, p.Where, p.Accs, p.Outs = room(p.Groups, "spare"), room(p.Where, api.Node{Pos: 77}), room(p.Accs, api.Acc{Field: "spare"}), room(p.Outs, api.Out{Alias: "spare"})
	for i := range p.Outs {
		p.Outs[i].Tree = room(p.Outs[i].Tree, api.Node{Pos: 77})
	}
	return p
}

// room is a list with one thing behind its end.
func room[T any](l []T, spare T) []T {
	return append(slices.Clone(l), spare)[:len(l)]
}
