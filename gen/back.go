package gen

import (
	"slices"

	"weir/api"
)

// operators are the nodes of instructions that stand above two others, or more.
var operators = [...]api.Op{
	api.JumpFalse: api.OpAnd, api.JumpTrue: api.OpOr,
	api.Add: api.OpAdd, api.Sub: api.OpSub, api.Mul: api.OpMul, api.Div: api.OpDiv, api.Mod: api.OpMod,
}

// comparisons are what pushtime asks, by its first operand.
var comparisons = [...]api.Op{api.OpEq, api.OpNe, api.OpLt, api.OpLe, api.OpGt, api.OpGe}

// tree is the nodes of a tree that are known, and behind them the trees under the topmost one.
// Each tree stands under one other at most, so that all are laid down in one go, however deep they are.
type tree struct {
	first []api.Node
	under []tree
}

func alone(l ...api.Node) tree { return tree{first: l} }

func over(op api.Op, kids ...tree) tree {
	return tree{[]api.Node{{Op: op, Kids: len(kids)}}, kids}
}

// flat is the nodes of a tree.
func (t tree) flat() []api.Node {
	var l []api.Node
	var lay func(t tree)
	lay = func(t tree) {
		l = append(l, t.first...)
		for _, kid := range t.under {
			lay(kid)
		}
	}
	lay(t)
	return l
}

// planned is the plan that is read from a program that passes.
func planned(p api.Program) api.Plan {
	return api.Plan{
		From: p.From, Into: p.Into, Every: p.Every, Offset: p.Offset, Groups: slices.Clone(p.Groups),
		Where: where(p), Accs: slices.Clone(p.Accs), Outs: outs(p),
	}
}

// group is an OpAnd, or an OpOr, whose last kid has not been read, and where its code ends.
type group struct {
	op   api.Op
	aim  int
	kids []tree
}

// where is the condition that is read from a filter.
func where(p api.Program) []api.Node {
	if p.Filter[0].Code == api.PushTrue && p.Filter[1].Code == api.Accept {
		return nil
	}
	var whole tree
	var open []group
	for at, ins := range p.Filter {
		for len(open) > 0 && open[len(open)-1].aim == at {
			last := open[len(open)-1]
			open = open[:len(open)-1]
			whole = over(last.op, append(last.kids, whole)...)
		}
		switch ins.Code {
		case api.JumpFalse, api.JumpTrue:
			open = joining(open, operators[ins.Code], ins.A, whole)
			whole = tree{}
		case api.Not:
			whole = negated(whole)
		case api.And, api.Or, api.Pop, api.Accept:
			// Pop stands behind a jump, Accept behind all; the others are made of nothing.
		default:
			whole = alone(asked(p, ins)...)
		}
	}
	return whole.flat()
}

// joining are the open groups, when a kid has been read behind which a jump stands:
// it is one more of the innermost group, if that has this aim, else the first one of another.
func joining(open []group, op api.Op, aim int, kid tree) []group {
	last := len(open) - 1
	if last < 0 || open[last].op != op || open[last].aim != aim {
		return append(open, group{op, aim, []tree{kid}})
	}
	open[last].kids = append(open[last].kids, kid)
	return open
}

// negated is the opposite of a condition: where words are the same, it is that they are not.
func negated(t tree) tree {
	if len(t.first) > 1 && t.first[0].Op == api.OpEq && t.first[1].Op == api.OpTag {
		return alone(api.Node{Op: api.OpNe, Kids: 2}, t.first[1], t.first[2])
	}
	return over(api.OpNot, t)
}

// asked is what an instruction of a filter asks by itself.
func asked(p api.Program, ins api.Ins) []api.Node {
	tag := func(n int) api.Node { return api.Node{Op: api.OpTag, S: p.Names[n]} }
	text := func(s string) api.Node { return api.Node{Op: api.OpText, S: s} }
	switch ins.Code {
	case api.PushTrue:
		return []api.Node{{Op: api.OpTrue}}
	case api.PushFalse:
		return []api.Node{{Op: api.OpFalse}}
	case api.PushTag:
		return []api.Node{{Op: api.OpEq, Kids: 2}, tag(ins.A), text(p.Texts[ins.B])}
	case api.PushSame:
		return []api.Node{{Op: api.OpEq, Kids: 2}, tag(ins.A), tag(ins.B)}
	case api.PushTime:
		return []api.Node{{Op: comparisons[ins.A], Kids: 2}, {Op: api.OpClock}, {Op: api.OpTime, N: p.Times[ins.B]}}
	}
	l := []api.Node{{Op: api.OpIn, Kids: 1 + len(p.Lists[ins.B])}, tag(ins.A)}
	for _, s := range p.Lists[ins.B] {
		l = append(l, text(s))
	}
	return l
}

// outs are what an output emits.
func outs(p api.Program) []api.Out {
	var stack []tree
	push := func(t tree) { stack = append(stack, t) }
	take := func(n int) []tree {
		left := len(stack) - n
		taken := slices.Clone(stack[left:])
		stack = stack[:left]
		return taken
	}
	acc := func(n int) api.Node { return api.Node{Op: api.OpAcc, N: int64(n)} }
	var l []api.Out
	for _, ins := range p.Output {
		switch ins.Code {
		case api.LoadInt:
			push(alone(api.Node{Op: api.OpInt, N: p.Ints[ins.A]}))
		case api.LoadAcc:
			push(alone(acc(ins.A)))
		case api.Ratio:
			push(alone(api.Node{Op: api.OpRatio, Kids: 2}, acc(ins.A), acc(ins.B)))
		case api.Neg:
			push(over(api.OpNeg, take(1)...))
		case api.Emit:
			l = append(l, api.Out{Alias: p.Aliases[ins.A], Tree: take(1)[0].flat()})
		case api.Done:
		default:
			push(over(operators[ins.Code], take(2)...))
		}
	}
	return l
}
