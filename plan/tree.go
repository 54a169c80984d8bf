package plan

import (
	"slices"

	"weir/api"
	"weir/ast"
	"weir/norm"
)

// row is what a call becomes: what accumulators of these functions tell, under a node if there are two.
type row struct {
	over api.Op
	of   [2]api.Func
}

var rows = [...]row{
	api.Count:   {of: [2]api.Func{api.Count}},
	api.TotalOf: {of: [2]api.Func{api.TotalOf}},
	api.Mean:    {api.OpRatio, [2]api.Func{api.TotalOf, api.Count}},
	api.Min:     {of: [2]api.Func{api.Min}},
	api.Max:     {of: [2]api.Func{api.Max}},
	api.First:   {of: [2]api.Func{api.First}},
	api.Last:    {of: [2]api.Func{api.Last}},
	api.Spread:  {api.OpSub, [2]api.Func{api.Max, api.Min}},
}

// became is the tree that a call becomes, and its accumulators, which are numbered from a number on.
func became(call api.Node, number int) (tree []api.Node, accs []api.Acc) {
	above := rows[call.Func].over
	if above != 0 {
		tree = append(tree, api.Node{Op: above, Kids: 2})
	}
	for _, f := range rows[call.Func].of {
		if f != 0 {
			tree = append(tree, api.Node{Op: api.OpAcc, N: int64(number + len(accs))})
			accs = append(accs, api.Acc{Func: f, Field: call.S})
		}
	}
	return tree, accs
}

// laid is a tree whose nodes have become trees, laid together in memory of their own:
// a node that has kids becomes one with as many.
func laid[N any](tree []N, becomes func(N) []N) []N {
	var made []N
	for _, n := range tree {
		made = append(made, becomes(n)...)
	}
	return made
}

// itself is what a node becomes that stays what it is, wherever it stood in a text.
func itself(n api.Node) []api.Node {
	n.Pos = 0
	return []api.Node{n}
}

// improved is a right plan in which nothing is done twice.
func improved(p api.Plan) api.Plan {
	better := api.Plan{From: p.From, Into: p.Into, Every: p.Every, Offset: p.Offset, Groups: slices.Clone(p.Groups), Where: formed(p.Where)}
	numbers := map[api.Acc]int{}
	number := func(n api.Node) []api.Node {
		if n.Op == api.OpAcc {
			acc := p.Accs[n.N]
			if _, there := numbers[acc]; !there {
				numbers[acc] = len(better.Accs)
				better.Accs = append(better.Accs, acc)
			}
			n.N = int64(numbers[acc])
		}
		return itself(n)
	}
	for _, out := range p.Outs {
		better.Outs = append(better.Outs, api.Out{Alias: out.Alias, Tree: laid(folded(out.Tree), number)})
	}
	return better
}

// formed is a condition's form; none, if it asks for nothing.
func formed(where []api.Node) []api.Node {
	if len(where) == 0 {
		return nil
	}
	// The condition of a right plan is right.
	form, _ := norm.Form(where)
	if form[0].Op == api.OpTrue {
		return nil
	}
	return form
}

// folded is an out's tree in which what is certain is reckoned. It is done
// node by node, as a part of an out may have a level more than a sum that norm takes.
func folded(l []api.Node) []api.Node {
	made, certain := []api.Node{l[0]}, l[0].Kids > 0
	places := append(ast.Kids(l, 0), len(l))
	for i, end := range places[1:] {
		kid := folded(l[places[i]:end])
		certain = certain && kid[0].Op == api.OpInt
		made = append(made, kid...)
	}
	if certain {
		// An operator of numbers is a right sum.
		made, _ = norm.FoldSum(made)
	}
	return made
}
