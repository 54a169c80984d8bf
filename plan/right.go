package plan

import (
	"slices"

	"weir/api"
	"weir/ast"
	"weir/fault"
)

// right tells whether a plan is right.
func right(p api.Plan) bool {
	return ast.Right(frame(p)) == nil && distinct(p.Outs) && (len(p.Where) == 0 || ast.Cond(p.Where) == nil) &&
		!slices.ContainsFunc(p.Accs, odd) && !slices.ContainsFunc(p.Outs, func(out api.Out) bool { return !sum(out.Tree, p.Accs) })
}

// frame is a query that asks for nothing, but has all else that a plan has of a query.
// It is without the condition, as a plan's may be longer than a query.
func frame(p api.Plan) api.Query {
	q := api.Query{Into: api.Label{Text: p.Into}, From: api.Label{Text: p.From}, Every: p.Every, Offset: p.Offset}
	for _, group := range p.Groups {
		q.Groups = append(q.Groups, api.Label{Text: group})
	}
	for _, out := range p.Outs {
		q.Items = append(q.Items, api.Item{Tree: []api.Node{{Op: api.OpInt}}, Alias: api.Label{Text: out.Alias}})
	}
	return q
}

// distinct tells whether each out has a name that no other one has.
func distinct(outs []api.Out) bool {
	var names []string
	for _, out := range outs {
		names = append(names, out.Alias)
	}
	return !slices.Contains(names, "") && !twice(names)
}

// odd tells whether an accumulator is none: it keeps what a call asks for that becomes nothing else.
func odd(a api.Acc) bool {
	call := []api.Node{{Op: api.OpCall, Func: a.Func, S: a.Field}}
	return ast.Sum(call) != nil || rows[a.Func].over != 0
}

// sum tells whether a tree is a plan's sum of accumulators, which are right.
func sum(l []api.Node, accs []api.Acc) bool {
	// As a tree it is a sum in which what is told of accumulators are numbers.
	like := slices.Clone(l)
	for i, n := range l {
		switch n.Op {
		case api.OpCall:
			return false
		case api.OpAcc:
			if named(n, accs) == (api.Acc{}) {
				return false
			}
			like[i].Op, like[i].N = api.OpInt, 0
		case api.OpRatio:
			if !ratio(l[i+1:], accs) {
				return false
			}
			like[i].Op = api.OpDiv
		}
	}
	return fault.Code(ast.Sum(like)) != api.ErrTree && ast.Depth(l) <= api.MaxDeep+1
}

// ratio tells whether nodes begin with a sum's accumulator and the count's of the same field.
func ratio(l []api.Node, accs []api.Acc) bool {
	if len(l) < 2 {
		return false
	}
	total, count := named(l[0], accs), named(l[1], accs)
	return total.Func == api.TotalOf && count == api.Acc{Func: api.Count, Field: total.Field}
}

// named is the accumulator that a node names; nothing, if it names none.
func named(n api.Node, accs []api.Acc) api.Acc {
	if n.Op != api.OpAcc || n.N < 0 || n.N >= int64(len(accs)) {
		return api.Acc{}
	}
	return accs[n.N]
}
