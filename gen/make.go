package gen

import (
	"slices"
	"strings"

	"weir/api"
	"weir/norm"
)

// codes are the instructions of operators.
var codes = [...]api.Code{
	api.OpNeg: api.Neg, api.OpAdd: api.Add, api.OpSub: api.Sub, api.OpMul: api.Mul, api.OpDiv: api.Div, api.OpMod: api.Mod,
}

// signs are what pushtime has for a comparison with the time first.
var signs = [...]int{api.OpEq: 0, api.OpNe: 1, api.OpLt: 2, api.OpLe: 3, api.OpGt: 4, api.OpGe: 5}

// turned are what it has for one with the number first.
var turned = [...]int{api.OpEq: 0, api.OpNe: 1, api.OpLt: 4, api.OpLe: 5, api.OpGt: 2, api.OpGe: 3}

// between stands between the texts of a list that are kept as one text. No text has it.
const between = "\x00"

// pool has each thing once, in the order in which they are named first.
type pool[T comparable] struct {
	all     []T
	numbers map[T]int
}

func newPool[T comparable]() pool[T] { return pool[T]{numbers: map[T]int{}} }

// number is that of a thing, which is taken in, if it is not there.
func (p *pool[T]) number(of T) int {
	n, there := p.numbers[of]
	if !there {
		n = len(p.all)
		p.numbers[of] = n
		p.all = append(p.all, of)
	}
	return n
}

// maker has the lists of a program that is being made.
type maker struct {
	names, texts, lists pool[string]
	times, ints         pool[int64]
}

// program is the program of a right plan.
func program(p api.Plan) api.Program {
	m := maker{newPool[string](), newPool[string](), newPool[string](), newPool[int64](), newPool[int64]()}
	made := api.Program{From: p.From, Into: p.Into, Every: p.Every, Offset: p.Offset, Groups: slices.Clone(p.Groups), Accs: slices.Clone(p.Accs)}
	// What the filter names stands in the lists ahead of what the output does.
	made.Filter = m.filter(p.Where)
	made.Output = m.output(p.Outs)
	for _, out := range p.Outs {
		made.Aliases = append(made.Aliases, out.Alias)
	}
	for _, texts := range m.lists.all {
		made.Lists = append(made.Lists, strings.Split(texts, between))
	}
	made.Names, made.Texts, made.Times, made.Ints = m.names.all, m.texts.all, m.times.all, m.ints.all
	return made
}

// filter is the code of a condition, or of none.
func (m *maker) filter(where []api.Node) []api.Ins {
	if len(where) == 0 {
		where = []api.Node{{Op: api.OpTrue}}
	}
	var made []api.Ins
	at := 0
	var cond func()
	cond = func() {
		n := where[at]
		at++
		switch n.Op {
		case api.OpNot:
			cond()
			made = append(made, api.Ins{Code: api.Not})
		case api.OpAnd, api.OpOr:
			jump := api.Ins{Code: api.JumpFalse}
			if n.Op == api.OpOr {
				jump.Code = api.JumpTrue
			}
			cond()
			var jumps []int
			for range n.Kids - 1 {
				jumps = append(jumps, len(made))
				made = append(made, jump, api.Ins{Code: api.Pop})
				cond()
			}
			for _, j := range jumps {
				made[j].A = len(made)
			}
		default:
			made = append(made, m.leaf(n.Op, where[at:at+n.Kids])...)
			at += n.Kids
		}
	}
	cond()
	return append(made, api.Ins{Code: api.Accept})
}

// leaf is the code of a condition that stands above no other one, by its operands.
func (m *maker) leaf(op api.Op, of []api.Node) []api.Ins {
	switch {
	case certain(op, of):
		return []api.Ins{truth(op, of)}
	case op == api.OpIn:
		return []api.Ins{{Code: api.PushIn, A: m.names.number(of[0].S), B: m.lists.number(joined(of[1:]))}}
	case of[0].Op == api.OpClock:
		return []api.Ins{{Code: api.PushTime, A: signs[op], B: m.times.number(of[1].N)}}
	case of[1].Op == api.OpClock:
		return []api.Ins{{Code: api.PushTime, A: turned[op], B: m.times.number(of[0].N)}}
	}
	same := []api.Ins{m.same(of[0], of[1])}
	if op == api.OpNe {
		return append(same, api.Ins{Code: api.Not})
	}
	return same
}

// same asks whether a tag is a text, in either order, or two tags are the same.
func (m *maker) same(a, b api.Node) api.Ins {
	switch {
	case a.Op == api.OpText:
		return m.same(b, a)
	case b.Op == api.OpTag:
		return api.Ins{Code: api.PushSame, A: m.names.number(a.S), B: m.names.number(b.S)}
	}
	return api.Ins{Code: api.PushTag, A: m.names.number(a.S), B: m.texts.number(b.S)}
}

// certain tells whether a condition hangs on no tag and no time.
func certain(op api.Op, of []api.Node) bool {
	switch op {
	case api.OpTrue, api.OpFalse:
		return true
	case api.OpIn:
		return of[0].Op == api.OpText
	}
	return of[0].Op == of[1].Op && of[0].Op != api.OpTag
}

// truth is the code of a condition that is certain: it holds of all tags and times, or of none.
func truth(op api.Op, of []api.Node) api.Ins {
	// It is a part of a right condition, and so it is right.
	holds, _ := norm.Holds(append([]api.Node{{Op: op, Kids: len(of)}}, of...), nil, 0)
	if holds {
		return api.Ins{Code: api.PushTrue}
	}
	return api.Ins{Code: api.PushFalse}
}

// joined are the texts of a list as one text.
func joined(texts []api.Node) string {
	var l []string
	for _, n := range texts {
		l = append(l, n.S)
	}
	return strings.Join(l, between)
}

// output is the code of what a plan tells.
func (m *maker) output(outs []api.Out) []api.Ins {
	var made []api.Ins
	var rest []api.Node
	var sum func()
	sum = func() {
		n := rest[0]
		rest = rest[1:]
		switch n.Op {
		case api.OpInt:
			made = append(made, api.Ins{Code: api.LoadInt, A: m.ints.number(n.N)})
		case api.OpAcc:
			made = append(made, api.Ins{Code: api.LoadAcc, A: int(n.N)})
		case api.OpRatio:
			made = append(made, api.Ins{Code: api.Ratio, A: int(rest[0].N), B: int(rest[1].N)})
			rest = rest[2:]
		default:
			for range n.Kids {
				sum()
			}
			made = append(made, api.Ins{Code: codes[n.Op]})
		}
	}
	for i, out := range outs {
		rest = out.Tree
		sum()
		made = append(made, api.Ins{Code: api.Emit, A: i})
	}
	return append(made, api.Ins{Code: api.Done})
}
