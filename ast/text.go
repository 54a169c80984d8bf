package ast

import (
	"strconv"
	"strings"

	"weir/api"
	"weir/funcs"
	"weir/lex"
	"weir/span"
)

// How strongly a node's text holds together, from the loosest on: conditions, then sums.
const (
	anything = iota
	either
	both
	opposite
	simple
	row
	product
	negative
	whole
	called
)

// binding is how strongly each node's text holds together, and how strongly
// those of its first kid and of the rest must, to stand in it without brackets.
var binding = [...]struct{ own, first, rest uint8 }{
	api.OpInt:   {own: whole},
	api.OpCall:  {own: called},
	api.OpNeg:   {own: negative, first: called},
	api.OpAdd:   {row, row, product},
	api.OpSub:   {row, row, product},
	api.OpMul:   {product, product, negative},
	api.OpDiv:   {product, product, negative},
	api.OpMod:   {product, product, negative},
	api.OpTrue:  {own: simple},
	api.OpFalse: {own: simple},
	api.OpNot:   {own: opposite, first: opposite},
	api.OpAnd:   {both, opposite, opposite},
	api.OpOr:    {either, both, both},
	api.OpEq:    {own: simple},
	api.OpNe:    {own: simple},
	api.OpLt:    {own: simple},
	api.OpLe:    {own: simple},
	api.OpGt:    {own: simple},
	api.OpGe:    {own: simple},
	api.OpIn:    {own: simple},
	api.OpTag:   {own: anything},
	api.OpText:  {own: anything},
	api.OpClock: {own: anything},
	api.OpTime:  {own: anything},
}

// words stand in a text for what a node is.
var words = [...]string{
	api.OpNeg: "-", api.OpAdd: "+", api.OpSub: "-", api.OpMul: "*", api.OpDiv: "/", api.OpMod: "%",
	api.OpTrue: "TRUE", api.OpFalse: "FALSE", api.OpNot: "NOT ", api.OpAnd: "AND", api.OpOr: "OR",
	api.OpEq: "=", api.OpNe: "!=", api.OpLt: "<", api.OpLe: "<=", api.OpGt: ">", api.OpGe: ">=",
	api.OpClock: clock,
}

// write is the text of a right tree.
func write(l []api.Node) string {
	switch n := l[0]; n.Op {
	case api.OpInt, api.OpTime:
		return strconv.FormatInt(n.N, 10)
	case api.OpCall:
		return funcs.Name(n.Func) + "(" + lex.Quote(n.S) + ")"
	case api.OpTag:
		return lex.Quote(n.S)
	case api.OpText:
		return lex.Text(n.S)
	case api.OpTrue, api.OpFalse, api.OpClock:
		return words[n.Op]
	case api.OpNeg, api.OpNot:
		return words[n.Op] + writeKids(l)[0]
	case api.OpIn:
		texts := writeKids(l)
		return texts[0] + " IN (" + strings.Join(texts[1:], ", ") + ")"
	default:
		return strings.Join(writeKids(l), " "+words[n.Op]+" ")
	}
}

// writeKids are the texts of the topmost node's kids, in brackets where they hold together too loosely.
func writeKids(l []api.Node) []string {
	var texts []string
	for i, kid := range kids(l) {
		least := binding[l[0].Op].rest
		if i == 0 {
			least = binding[l[0].Op].first
		}
		s := write(kid)
		if binding[kid[0].Op].own < least {
			s = "(" + s + ")"
		}
		texts = append(texts, s)
	}
	return texts
}

// writeQuery is the text of a query that is right but, maybe, too long.
func writeQuery(q api.Query) string {
	s := "SELECT " + writeItems(q.Items)
	if q.Into.Text != "" {
		s += " INTO " + lex.Quote(q.Into.Text)
	}
	s += " FROM " + lex.Quote(q.From.Text)
	if len(q.Where) > 0 {
		s += " WHERE " + write(q.Where)
	}
	s += " GROUP BY time(" + span.Print(q.Every)
	if q.Offset != 0 {
		s += ", " + span.Print(q.Offset)
	}
	s += ")"
	for _, group := range q.Groups {
		s += ", " + lex.Quote(group.Text)
	}
	return s + writeFill(q)
}

func writeItems(l []api.Item) string {
	var texts []string
	for _, item := range l {
		s := write(item.Tree)
		if item.Alias.Text != "" {
			s += " AS " + lex.Quote(item.Alias.Text)
		}
		texts = append(texts, s)
	}
	return strings.Join(texts, ", ")
}

func writeFill(q api.Query) string {
	switch q.Fill {
	case api.FillLast:
		return " FILL(last)"
	case api.FillWith:
		return " FILL(" + strconv.FormatInt(q.FillN, 10) + ")"
	default:
		return ""
	}
}
