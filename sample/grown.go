package sample

import "weir/api"

// Tree is a tree told anew: a node with the trees of its kids.
type Tree struct {
	api.Node
	Under []Tree
}

// Grow is the tree with which nodes begin, and what is left behind it, if there is one.
func Grow(l []api.Node) (t Tree, rest []api.Node, whole bool) {
	if len(l) == 0 || l[0].Kids < 0 {
		return t, nil, false
	}
	t.Node, rest = l[0], l[1:]
	for range t.Kids {
		var kid Tree
		if kid, rest, whole = Grow(rest); !whole {
			return t, nil, false
		}
		t.Under = append(t.Under, kid)
	}
	return t, rest, true
}

// Grown is the tree of nodes that are one.
func Grown(l []api.Node) Tree {
	t, _, _ := Grow(l)
	return t
}

// Flat is the nodes of a tree, without places.
func (t Tree) Flat() []api.Node {
	n := t.Node
	n.Kids, n.Pos = len(t.Under), 0
	l := []api.Node{n}
	for _, kid := range t.Under {
		l = append(l, kid.Flat()...)
	}
	return l
}

// Levels is how deep a tree is.
func (t Tree) Levels() int {
	most := 0
	for _, kid := range t.Under {
		most = max(most, kid.Levels())
	}
	return 1 + most
}
