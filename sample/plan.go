package sample

import (
	"slices"

	"weir/api"
)

// Acc is what an accumulator tells, by its number.
func Acc(n int) api.Node { return api.Node{Op: api.OpAcc, N: int64(n)} }

// Neg is a tree under so many OpNeg.
func Neg(times int, l ...api.Node) []api.Node {
	return append(slices.Repeat([]api.Node{Node(api.OpNeg, 1)}, times), l...)
}

// accs draws accumulators of all kinds, of few fields. The last three are such that there can be a ratio.
func (d Draw) accs() []api.Acc {
	var l []api.Acc
	for range 1 + d(9) {
		l = append(l, api.Acc{Func: One(d, api.Count, api.TotalOf, api.Min, api.Max, api.First, api.Last), Field: One(d, "v", "w", d.Name())})
	}
	return append(l, api.Acc{Func: api.TotalOf, Field: "v"}, api.Acc{Func: api.Count, Field: "v"}, api.Acc{Func: api.Count, Field: "w"})
}

// planSum draws a plan's sum of accumulators that accs has drawn.
func (d Draw) planSum(accs []api.Acc, levels int) []api.Node {
	var l []api.Node
	for _, n := range d.Sum(levels) {
		switch {
		case n.Op == api.OpInt && d(3) > 0:
			l = append(l, Int(One[int64](d, 0, 1, 2, -3, 10)))
		case n.Op != api.OpCall:
			l = append(l, n)
		case d(4) == 0:
			l = append(l, Above(api.OpRatio, Acc(len(accs)-3), Acc(len(accs)-2))...)
		default:
			l = append(l, Acc(d(len(accs))))
		}
	}
	for i := range l {
		l[i].Pos = d(99)
	}
	return l
}

// Plan draws a right plan.
func (d Draw) Plan() api.Plan {
	q := d.Query()
	p := api.Plan{From: q.From.Text, Into: q.Into.Text, Every: q.Every, Offset: q.Offset, Where: q.Where, Accs: d.accs()}
	for _, group := range q.Groups {
		p.Groups = append(p.Groups, group.Text)
	}
	for i := range 1 + d(4) {
		p.Outs = append(p.Outs, api.Out{Alias: string(rune('a' + i)), Tree: d.planSum(p.Accs, 1+d(6))})
	}
	for i := range p.Where {
		p.Where[i].Pos = d(99)
	}
	return p
}
