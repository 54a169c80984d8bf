package ast

import "weir/api"

const (
	nowhere = 0  // the end of a tree that does not stand as a whole
	root    = -1 // the place of what the topmost node is a kid of
)

// opened is a node of which so many kids are still to come.
type opened struct{ at, left int }

// walk goes through the tree that begins at a place, and answers the place behind it, or nowhere.
// Each node is seen on the way, with the place of the one whose kid it is, and its level.
// No tree is too deep for it: what is open stands in a list, not in calls.
func walk(l []api.Node, at int, see func(at, parent, level int)) int {
	if at < 0 {
		return nowhere
	}
	open := []opened{{at: root}}
nodes:
	for ; at < len(l) && l[at].Kids >= 0; at++ {
		see(at, open[len(open)-1].at, len(open))
		open = append(open, opened{at, l[at].Kids})
		for len(open) > 1 {
			top := &open[len(open)-1]
			if top.left > 0 {
				top.left--
				continue nodes
			}
			open = open[:len(open)-1]
		}
		return at + 1
	}
	return nowhere
}

// kids are the trees of the topmost node's kids, each cut off so that it ends where the next one stands.
func kids(l []api.Node) [][]api.Node {
	places := append(Kids(l, 0), len(l))
	var trees [][]api.Node
	for i, end := range places[1:] {
		trees = append(trees, l[places[i]:end:end])
	}
	return trees
}
