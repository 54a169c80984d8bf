package norm

import (
	"slices"

	"weir/api"
)

// opposites hold just where the others do not.
var opposites = [...]api.Op{
	api.OpTrue: api.OpFalse, api.OpFalse: api.OpTrue, api.OpAnd: api.OpOr, api.OpOr: api.OpAnd,
	api.OpEq: api.OpNe, api.OpNe: api.OpEq, api.OpLt: api.OpGe, api.OpLe: api.OpGt, api.OpGt: api.OpLe, api.OpGe: api.OpLt,
}

// turned are the signs that say the same of operands that have changed places.
var turned = [...]api.Op{
	api.OpEq: api.OpEq, api.OpNe: api.OpNe, api.OpLt: api.OpGt, api.OpLe: api.OpGe, api.OpGt: api.OpLt, api.OpGe: api.OpLe,
}

// form is a condition's form.
func form(l []api.Node) []api.Node {
	for _, by := range []rules{plain(), folding(), gathering()} {
		l = rebuild(l, by)
	}
	return l
}

// plain are the rules by which no OpNot is left but of OpIn, and each comparison stands in one way.
func plain() rules {
	return rules{
		api.OpNot: func(l []api.Node) []api.Node { return opposite(l[1:]) },
		api.OpEq:  turn, api.OpNe: turn, api.OpLt: turn, api.OpLe: turn, api.OpGt: turn, api.OpGe: turn,
		api.OpIn: list,
	}
}

// folding are the rules by which what is certain is reckoned.
func folding() rules {
	return rules{
		api.OpNot: func(l []api.Node) []api.Node {
			if isTruth(l[1]) {
				return opposite(l[1:])
			}
			return l
		},
		api.OpAnd: without(api.OpTrue), api.OpOr: without(api.OpFalse),
		api.OpEq: settle, api.OpNe: settle, api.OpLt: settle, api.OpLe: settle, api.OpGt: settle, api.OpGe: settle,
		api.OpIn: settle,
	}
}

// gathering are the rules by which kids stand in order, each once, and none of their parent's kind.
func gathering() rules { return rules{api.OpAnd: gather, api.OpOr: gather} }

// opposite is the opposite of a condition in which there is no OpNot, but of OpIn.
func opposite(l []api.Node) []api.Node {
	switch l[0].Op {
	case api.OpNot:
		return l[1:]
	case api.OpIn:
		return over(api.OpNot, l)
	case api.OpAnd, api.OpOr:
		var trees [][]api.Node
		for _, kid := range kids(l) {
			trees = append(trees, opposite(kid))
		}
		return over(opposites[l[0].Op], trees...)
	}
	other := slices.Clone(l)
	other[0].Op = opposites[l[0].Op]
	return other
}

// turn is a comparison with the operand first that is to stand there.
func turn(l []api.Node) []api.Node {
	a, b := l[1], l[2]
	if late(a) && !late(b) || a.Op == api.OpTag && b.Op == api.OpTag && a.S > b.S {
		return []api.Node{{Op: turned[l[0].Op], Kids: 2}, b, a}
	}
	return l
}

// late tells whether an operand stands behind one that is a tag, or the time.
func late(n api.Node) bool { return n.Op == api.OpText || n.Op == api.OpTime }

// list is an OpIn with its texts in order, each once: of one text it is a comparison.
func list(l []api.Node) []api.Node {
	texts := once(l[2:], compareNodes)
	op := api.OpIn
	if len(texts) == 1 {
		op = api.OpEq
	}
	return append([]api.Node{{Op: op, Kids: 1 + len(texts)}, l[1]}, texts...)
}

// settle is whether a comparison holds, or an OpIn, if that hangs on no tag and no time.
func settle(l []api.Node) []api.Node {
	if !certain(l) {
		return l
	}
	if holds(l, nil, 0) {
		return over(api.OpTrue)
	}
	return over(api.OpFalse)
}

// certain tells whether both operands are of one kind, and tags of one name. Of an OpIn
// the second one is its first text: it is enough that the operand ahead is a text, too.
func certain(l []api.Node) bool {
	a, b := l[1], l[2]
	return a.Op == b.Op && (a.Op != api.OpTag || a.S == b.S)
}

// without is the rule that leaves out the kids that change nothing, and
// tells the opposite of these, where a kid is that.
func without(idle api.Op) rule {
	return func(l []api.Node) []api.Node {
		var trees [][]api.Node
		for _, kid := range kids(l) {
			if kid[0].Op == opposites[idle] {
				return kid
			}
			if kid[0].Op != idle {
				trees = append(trees, kid)
			}
		}
		if len(trees) == 0 {
			return over(idle)
		}
		return joined(l[0].Op, trees)
	}
}

func isTruth(n api.Node) bool { return n.Op == api.OpTrue || n.Op == api.OpFalse }

// gather lays the kids of kids that are of a condition's own kind among its kids.
func gather(l []api.Node) []api.Node {
	var trees [][]api.Node
	for _, kid := range kids(l) {
		if kid[0].Op == l[0].Op {
			trees = append(trees, kids(kid)...)
		} else {
			trees = append(trees, kid)
		}
	}
	return joined(l[0].Op, once(trees, compareTrees))
}
