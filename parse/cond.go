package parse

import (
	"math"
	"slices"

	"weir/api"
	"weir/span"
)

func (r *reader) cond() { r.joined(r.both, "or", api.OpOr) }

func (r *reader) both() { r.joined(r.opposite, "and", api.OpAnd) }

// joined reads conditions with a word between, which become the kids of one node, if there are several.
func (r *reader) joined(part func(), word string, op api.Op) {
	first := len(r.nodes)
	part()
	n := api.Node{Op: op, Kids: 1, Pos: r.token().Pos}
	for r.word(word) {
		part()
		n.Kids++
	}
	if n.Kids > 1 {
		r.nodes = slices.Insert(r.nodes, first, n)
	}
}

func (r *reader) opposite() {
	for not := r.token(); r.word("not"); not = r.token() {
		r.lay(api.Node{Op: api.OpNot, Kids: 1, Pos: not.Pos})
	}
	r.simple()
}

func (r *reader) simple() {
	place := r.token().Pos
	switch {
	case r.word("true"):
		r.lay(api.Node{Op: api.OpTrue, Pos: place})
	case r.word("false"):
		r.lay(api.Node{Op: api.OpFalse, Pos: place})
	case r.bracketed(r.cond):
	default:
		r.operands()
	}
}

// operands reads what begins with an operand: a comparison, or a list in which it is to be.
func (r *reader) operands() {
	first := r.operand()
	place := r.token().Pos
	if r.word("in") {
		if isTime(first) {
			giveUp(place, api.ErrSyntax)
		}
		r.list(api.Node{Op: api.OpIn, Pos: place}, first)
		return
	}
	n, there := r.operator([]api.Op{api.OpEq, api.OpNe, api.OpLt, api.OpLe, api.OpGt, api.OpGe})
	r.must(there)
	r.compare(n, first)
}

// compare reads the second operand of a comparison, and holds both against each other.
func (r *reader) compare(n, first api.Node) {
	ordered := n.Op != api.OpEq && n.Op != api.OpNe
	if ordered && first.Op == api.OpTag {
		giveUp(n.Pos, api.ErrSyntax)
	}
	second := r.operand()
	switch {
	case first.Op == api.OpClock && second.Op == api.OpText:
		second = timeOf(second)
	case first.Op == api.OpText && second.Op == api.OpClock:
		first = timeOf(first)
	case isTime(first) != isTime(second), ordered && !isTime(first):
		giveUp(second.Pos, api.ErrSyntax)
	}
	r.lay(n, first, second)
}

// list reads the texts behind IN.
func (r *reader) list(n, operand api.Node) {
	r.must(r.sign("("))
	texts := []api.Node{r.text()}
	for r.sign(",") {
		t := r.text()
		if len(texts) == api.MaxIn {
			giveUp(t.Pos, api.ErrLong)
		}
		texts = append(texts, t)
	}
	r.must(r.sign(")"))
	n.Kids = 1 + len(texts)
	r.lay(n, operand)
	r.lay(texts...)
}

func (r *reader) operand() api.Node {
	t := r.token()
	switch {
	case r.word(clock):
		return api.Node{Op: api.OpClock, Pos: t.Pos}
	case t.Kind == api.Text:
		return r.text()
	case t.Kind == api.Number, t.Kind == api.Span, t.Kind == api.Sign && t.Text == "-":
		return api.Node{Op: api.OpTime, N: r.number(api.Number, api.Span), Pos: t.Pos}
	default:
		return api.Node{Op: api.OpTag, S: r.column().Text, Pos: t.Pos}
	}
}

// number reads a number of one of some kinds, a - maybe ahead of it.
func (r *reader) number(kinds ...api.TokenKind) int64 {
	below := r.sign("-")
	r.must(slices.Contains(kinds, r.token().Kind))
	n := r.pass().N
	if below {
		return -n
	}
	return n
}

func isTime(n api.Node) bool { return n.Op == api.OpClock || n.Op == api.OpTime }

// timeOf is the time that a text beside the word time says.
func timeOf(text api.Node) api.Node {
	n, err := span.Time(text.S)
	if err != nil || n == math.MinInt64 {
		giveUp(text.Pos, api.ErrTime)
	}
	return api.Node{Op: api.OpTime, N: n, Pos: text.Pos}
}
