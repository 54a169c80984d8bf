package norm

import (
	"cmp"
	"slices"
	"strings"

	"weir/api"
	"weir/ast"
)

// rule says what becomes of a tree whose kids have been rebuilt by then.
type rule func([]api.Node) []api.Node

// rules are kept by the Op of a tree's topmost node; where there is none the tree stays as it is.
type rules [api.OpTime + 1]rule

// rebuild is a tree rebuilt from its leaves on, in memory of its own and without places.
// A tree that it is given is right, or has one level more: it may go down by calls.
func rebuild(l []api.Node, by rules) []api.Node {
	top := l[0]
	top.Pos = 0
	made := []api.Node{top}
	for _, kid := range kids(l) {
		made = append(made, rebuild(kid, by)...)
	}
	if change := by[top.Op]; change != nil {
		return change(made)
	}
	return made
}

// kids are the trees of the topmost node's kids.
func kids(l []api.Node) [][]api.Node {
	var trees [][]api.Node
	places := append(ast.Kids(l, 0), len(l))
	for i, end := range places[1:] {
		trees = append(trees, l[places[i]:end])
	}
	return trees
}

// over is the tree of a node that says nothing but what it is, above trees.
func over(op api.Op, trees ...[]api.Node) []api.Node {
	return slices.Concat([]api.Node{{Op: op, Kids: len(trees)}}, slices.Concat(trees...))
}

// joined is over, but that a tree which is alone stands for itself.
func joined(op api.Op, trees [][]api.Node) []api.Node {
	if len(trees) == 1 {
		return trees[0]
	}
	return over(op, trees...)
}

// once are some things in order, each once. They are put into order where they stand.
func once[T any](l []T, compare func(a, b T) int) []T {
	slices.SortFunc(l, compare)
	return slices.CompactFunc(l, func(a, b T) bool { return compare(a, b) == 0 })
}

// compareTrees puts trees into order.
func compareTrees(a, b []api.Node) int { return slices.CompareFunc(a, b, compareNodes) }

// compareNodes puts the nodes of conditions into order.
func compareNodes(a, b api.Node) int {
	return cmp.Or(cmp.Compare(a.Op, b.Op), strings.Compare(a.S, b.S), cmp.Compare(a.N, b.N), cmp.Compare(a.Kids, b.Kids))
}
