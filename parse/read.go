package parse

import (
	"strings"

	"weir/api"
	"weir/ast"
	"weir/fault"
	"weir/key"
	"weir/lex"
)

// clock is the word that conditions have for the time: no field, tag or item is called so.
const clock = "time"

// givenUp is the error with which the reading of a text ends early: a type by
// itself, so that no other panic is taken for it.
type givenUp struct{ error }

func giveUp(place int, e api.Errno) { panic(givenUp{fault.At(place, e)}) }

// reader goes through a text's tokens, and lays down the nodes of the tree in which it is.
type reader struct {
	tokens []api.Token
	at     int
	open   int // brackets around sums and conditions
	nodes  []api.Node
}

// token is the one that stands here.
func (r *reader) token() api.Token { return r.tokens[r.at] }

// pass goes on to the next token. The end is never passed, for nothing asks for it but through.
func (r *reader) pass() api.Token {
	t := r.token()
	r.at++
	return t
}

// must gives up, if what has to stand here does not.
func (r *reader) must(there bool) {
	if !there {
		giveUp(r.token().Pos, api.ErrSyntax)
	}
}

// sign passes a sign, if it stands here.
func (r *reader) sign(s string) bool {
	t := r.token()
	return r.passIf(t.Kind == api.Sign && t.Text == s)
}

// word passes a word of the language, or another one that stands for itself, if it stands here.
func (r *reader) word(s string) bool {
	t := r.token()
	return r.passIf(t.Kind == api.Word && strings.EqualFold(t.Text, s))
}

func (r *reader) passIf(there bool) bool {
	if there {
		r.pass()
	}
	return there
}

// name reads the name of a measure.
func (r *reader) name() api.Label {
	t := r.token()
	r.must(t.Kind == api.Name || t.Kind == api.Word && !lex.Key(t.Text))
	if key.Name(t.Text) != nil {
		giveUp(t.Pos, api.ErrName)
	}
	r.pass()
	return api.Label{Text: t.Text, Pos: t.Pos}
}

// column reads the name of a field, a tag or an item.
func (r *reader) column() api.Label {
	name := r.name()
	if name.Text == clock {
		giveUp(name.Pos, api.ErrName)
	}
	return name
}

// text reads what a tag may be held against.
func (r *reader) text() api.Node {
	t := r.token()
	r.must(t.Kind == api.Text)
	if t.Text != "" && key.Text(t.Text) != nil {
		giveUp(t.Pos, api.ErrText)
	}
	r.pass()
	return api.Node{Op: api.OpText, S: t.Text, Pos: t.Pos}
}

// tree reads a tree by itself. How deep it is tells itself when all of it is there.
func (r *reader) tree(read func()) []api.Node {
	first := r.token().Pos
	r.nodes = nil
	read()
	if ast.Depth(r.nodes) > api.MaxDeep {
		giveUp(first, api.ErrDeep)
	}
	return r.nodes
}

// lay puts nodes behind those that were read.
func (r *reader) lay(nodes ...api.Node) { r.nodes = append(r.nodes, nodes...) }

// bracketed reads what stands in brackets, if one is opened here.
func (r *reader) bracketed(read func()) bool {
	opening := r.token()
	if !r.sign("(") {
		return false
	}
	r.open++
	if r.open > api.MaxDeep {
		giveUp(opening.Pos, api.ErrDeep)
	}
	read()
	r.must(r.sign(")"))
	r.open--
	return true
}

// operator passes one of some operators, if it stands here, and answers its node.
func (r *reader) operator(ops []api.Op) (api.Node, bool) {
	place := r.token().Pos
	for _, op := range ops {
		if r.sign(signs[op]) {
			return api.Node{Op: op, Kids: 2, Pos: place}, true
		}
	}
	return api.Node{}, false
}

// signs stand between two operands.
var signs = [...]string{
	api.OpAdd: "+", api.OpSub: "-", api.OpMul: "*", api.OpDiv: "/", api.OpMod: "%",
	api.OpEq: "=", api.OpNe: "!=", api.OpLt: "<", api.OpLe: "<=", api.OpGt: ">", api.OpGe: ">=",
}
