package norm

import (
	"cmp"
	"slices"
	"strings"

	"weir/api"
	"weir/key"
)

// holds tells whether a right condition holds. It is gone through from its end on,
// so that of each node the kids' truths are there: the last one is that of the first kid.
func holds(l []api.Node, tags []api.Tag, t int64) bool {
	var truths []bool
	for i, n := range slices.Backward(l) {
		behind := l[i+1:]
		switch n.Op {
		case api.OpTag, api.OpText, api.OpClock, api.OpTime:
			// The comparison that stands ahead asks for it.
		case api.OpNot:
			last := len(truths) - 1
			truths[last] = !truths[last]
		case api.OpAnd, api.OpOr:
			first := len(truths) - n.Kids
			truth := slices.Contains(truths[first:], n.Op == api.OpOr) == (n.Op == api.OpOr)
			truths = append(truths[:first], truth)
		case api.OpTrue, api.OpFalse:
			truths = append(truths, n.Op == api.OpTrue)
		case api.OpIn:
			truths = append(truths, among(behind[0], behind[1:n.Kids], tags))
		default:
			truths = append(truths, stands(n.Op, compare(behind[0], behind[1], tags, t)))
		}
	}
	return truths[0]
}

// among tells whether an operand is one of some texts.
func among(n api.Node, texts []api.Node, tags []api.Tag) bool {
	asked := said(n, tags)
	return slices.ContainsFunc(texts, func(text api.Node) bool { return text.S == asked })
}

// compare puts two operands into order, both of them texts or both times.
func compare(a, b api.Node, tags []api.Tag, t int64) int {
	if a.Op == api.OpClock || a.Op == api.OpTime {
		return cmp.Compare(moment(a, t), moment(b, t))
	}
	return strings.Compare(said(a, tags), said(b, tags))
}

// said is the text that an operand is.
func said(n api.Node, tags []api.Tag) string {
	if n.Op == api.OpTag {
		return key.Value(tags, n.S)
	}
	return n.S
}

// moment is the time that an operand is.
func moment(n api.Node, t int64) int64 {
	if n.Op == api.OpClock {
		return t
	}
	return n.N
}

// stands tells whether a sign says so of operands that stand in this order.
func stands(op api.Op, order int) bool {
	switch op {
	case api.OpEq:
		return order == 0
	case api.OpNe:
		return order != 0
	case api.OpLt:
		return order < 0
	case api.OpLe:
		return order <= 0
	case api.OpGt:
		return order > 0
	default:
		return order >= 0
	}
}
