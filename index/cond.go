package index

import (
	"weir/api"
	"weir/key"
)

// clock is the name that conditions have for the time: no tag is called so.
const clock = "time"

// right tells whether nodes are a condition of tags, and nothing is left.
func right(l []api.Node) bool {
	rest, ok := condition(l, 1)
	return ok && len(rest) == 0
}

// condition reads a condition that stands so deep: what is behind it, and whether it is one.
func condition(l []api.Node, deep int) ([]api.Node, bool) {
	if len(l) == 0 || deep > api.MaxDeep || !bare(l[0]) {
		return nil, false
	}
	n, rest := l[0], l[1:]
	switch n.Op {
	case api.OpTrue, api.OpFalse:
		return rest, n.Kids == 0
	case api.OpNot:
		return conditions(rest, n.Kids, deep+1, n.Kids == 1)
	case api.OpAnd, api.OpOr:
		return conditions(rest, n.Kids, deep+1, n.Kids >= 2)
	case api.OpEq, api.OpNe:
		return operands(rest, 2, deep+1, n.Kids == 2)
	case api.OpIn:
		rest, ok := operands(rest, 1, deep+1, 2 <= n.Kids && n.Kids <= 1+api.MaxIn)
		return texts(rest, n.Kids-1, ok)
	default:
		return nil, false
	}
}

// conditions reads so many of them, if they are as many as may be.
func conditions(l []api.Node, kids, deep int, ok bool) ([]api.Node, bool) {
	for ; ok && kids > 0; kids-- {
		l, ok = condition(l, deep)
	}
	return l, ok
}

// operands reads so many tags and texts.
func operands(l []api.Node, kids, deep int, ok bool) ([]api.Node, bool) {
	if !ok || deep > api.MaxDeep || len(l) < kids {
		return nil, false
	}
	for _, n := range l[:kids] {
		ok = ok && (isTag(n) || isText(n))
	}
	return l[kids:], ok
}

// texts reads so many texts.
func texts(l []api.Node, kids int, ok bool) ([]api.Node, bool) {
	if !ok || len(l) < kids {
		return nil, false
	}
	for _, n := range l[:kids] {
		ok = ok && isText(n)
	}
	return l[kids:], ok
}

// bare tells whether a node says nothing but what it is, and how many kids it has.
func bare(n api.Node) bool { return n.Func == 0 && n.S == "" && n.N == 0 }

// leaf tells whether a node says nothing but what it is, and a text.
func leaf(n api.Node) bool { return n.Func == 0 && n.N == 0 && n.Kids == 0 }

func isTag(n api.Node) bool {
	return n.Op == api.OpTag && leaf(n) && n.S != clock && key.Name(n.S) == nil
}

func isText(n api.Node) bool {
	return n.Op == api.OpText && leaf(n) && (n.S == "" || key.Text(n.S) == nil)
}
