package parse

import (
	"slices"
	"strings"

	"weir/api"
	"weir/funcs"
)

func (r *reader) sum() { r.row(r.product, []api.Op{api.OpAdd, api.OpSub}) }

func (r *reader) product() { r.row(r.signed, []api.Op{api.OpMul, api.OpDiv, api.OpMod}) }

// row reads operands with operators between that bind alike. Each of these takes all that
// stands ahead of it: so the last one comes first in the tree, and the operands stay as they are.
func (r *reader) row(operand func(), ops []api.Op) {
	first := len(r.nodes)
	operand()
	var between []api.Node
	for n, there := r.operator(ops); there; n, there = r.operator(ops) {
		between = append(between, n)
		operand()
	}
	slices.Reverse(between)
	r.nodes = slices.Insert(r.nodes, first, between...)
}

func (r *reader) signed() {
	for minus := r.token(); r.sign("-"); minus = r.token() {
		if r.token().Kind == api.Number {
			r.lay(api.Node{Op: api.OpInt, N: -r.pass().N, Pos: minus.Pos})
			return
		}
		r.lay(api.Node{Op: api.OpNeg, Kids: 1, Pos: minus.Pos})
	}
	r.single()
}

func (r *reader) single() {
	t := r.token()
	switch f := function(t); {
	case t.Kind == api.Number:
		r.pass()
		r.lay(api.Node{Op: api.OpInt, N: t.N, Pos: t.Pos})
	case f != 0:
		r.pass()
		r.must(r.sign("("))
		field := r.column()
		r.must(r.sign(")"))
		r.lay(api.Node{Op: api.OpCall, Func: f, S: field.Text, Pos: t.Pos})
	default:
		r.must(r.bracketed(r.sum))
	}
}

// function is what a token calls, or 0.
func function(t api.Token) api.Func {
	if t.Kind != api.Word {
		return 0
	}
	return funcs.Find(strings.ToLower(t.Text))
}

// begins tells whether a sum may begin with a token.
func begins(t api.Token) bool {
	return t.Kind == api.Number || function(t) != 0 || t.Kind == api.Sign && (t.Text == "-" || t.Text == "(")
}
