package ast

import (
	"math"
	"math/rand"
	"strconv"
	"strings"
	"testing"

	"weir/api"
	"weir/expect"
	"weir/lex"
	"weir/sample"
)

// fails holds an error without a place against a number and an index.
func fails(t *testing.T, what any, err error, e api.Errno, index int) {
	t.Helper()
	if wrong := expect.Wrong(err, e, expect.None, index); wrong != "" {
		t.Errorf("%.300v: %v: %s", what, err, wrong)
	}
}

// draw draws from a source with a fixed seed, so that each run draws the same.
func draw() sample.Draw { return rand.New(rand.NewSource(1970)).Intn }

// grown is a tree told anew: a node with the trees of its kids.
type grown struct {
	node api.Node
	kids []grown
}

// grow is the tree with which nodes begin, and what is left behind it.
func grow(l []api.Node) (g grown, rest []api.Node, whole bool) {
	if len(l) == 0 || l[0].Kids < 0 {
		return g, nil, false
	}
	g.node, rest = l[0], l[1:]
	for range g.node.Kids {
		var kid grown
		if kid, rest, whole = grow(rest); !whole {
			return g, nil, false
		}
		g.kids = append(g.kids, kid)
	}
	return g, rest, true
}

// levels is how deep a tree is.
func (g grown) levels() int {
	most := 0
	for _, kid := range g.kids {
		most = max(most, kid.levels())
	}
	return 1 + most
}

// isName and isText tell DOC.md's words anew.
func isName(s string) bool { return s != "" && len(s) <= 64 && plain(s) }

func isText(s string) bool { return s == "" || len(s) <= 256 && plain(s) }

func plain(s string) bool {
	return s == strings.ToValidUTF8(s, "") && strings.IndexFunc(s, func(r rune) bool { return r < 32 || r == 127 }) < 0
}

// only tells whether a node says nothing but what is told here.
func (g grown) only(n api.Node) bool {
	n.Op, n.Pos, n.Kids = g.node.Op, g.node.Pos, g.node.Kids
	return g.node == n
}

// all tells whether there are so many kids, and each is right.
func (g grown) all(least, most int, right func(grown) bool) bool {
	for _, kid := range g.kids {
		if !right(kid) {
			return false
		}
	}
	return least <= len(g.kids) && len(g.kids) <= most
}

// isSum is DOC.md's first table.
func isSum(g grown) bool {
	switch n := g.node; n.Op {
	case api.OpInt:
		return len(g.kids) == 0 && n.N >= -math.MaxInt64 && g.only(api.Node{N: n.N})
	case api.OpCall:
		return len(g.kids) == 0 && 1 <= n.Func && n.Func <= 8 && isName(n.S) && n.S != "time" && g.only(api.Node{Func: n.Func, S: n.S})
	case api.OpNeg:
		return g.only(api.Node{}) && g.all(1, 1, isSum)
	case api.OpAdd, api.OpSub, api.OpMul, api.OpDiv, api.OpMod:
		return g.only(api.Node{}) && g.all(2, 2, isSum)
	}
	return false
}

// isCond is DOC.md's second table.
func isCond(g grown) bool {
	if !g.only(api.Node{}) {
		return false
	}
	switch g.node.Op {
	case api.OpTrue, api.OpFalse:
		return len(g.kids) == 0
	case api.OpNot:
		return g.all(1, 1, isCond)
	case api.OpAnd, api.OpOr:
		return g.all(2, math.MaxInt, isCond)
	case api.OpEq, api.OpNe:
		return g.all(2, 2, isWord) || g.all(2, 2, isMoment)
	case api.OpLt, api.OpLe, api.OpGt, api.OpGe:
		return g.all(2, 2, isMoment)
	case api.OpIn:
		return g.all(2, 65, isWord) && grown{kids: g.kids[1:]}.all(1, 64, func(kid grown) bool { return kid.node.Op == api.OpText })
	}
	return false
}

func isWord(g grown) bool {
	n := g.node
	right := n.Op == api.OpTag && isName(n.S) && n.S != "time" || n.Op == api.OpText && isText(n.S)
	return right && len(g.kids) == 0 && g.only(api.Node{S: n.S})
}

func isMoment(g grown) bool {
	n := g.node
	right := n.Op == api.OpClock && n.N == 0 || n.Op == api.OpTime && n.N >= -math.MaxInt64
	return right && len(g.kids) == 0 && g.only(api.Node{N: n.N})
}

// inside is a text in brackets, if it has to be.
func inside(s string, brackets bool) string {
	if brackets {
		return "(" + s + ")"
	}
	return s
}

func isOne(op api.Op, of ...api.Op) bool {
	for _, o := range of {
		if op == o {
			return true
		}
	}
	return false
}

// sumText is a sum's text as the chapter tells it.
func sumText(g grown) string {
	n := g.node
	switch n.Op {
	case api.OpInt:
		return strconv.FormatInt(n.N, 10)
	case api.OpCall:
		return []string{"", "count", "sum", "mean", "min", "max", "first", "last", "spread"}[n.Func] + "(" + lex.Quote(n.S) + ")"
	case api.OpNeg:
		return "-" + inside(sumText(g.kids[0]), g.kids[0].node.Op != api.OpCall)
	}
	a, b := g.kids[0], g.kids[1]
	first, second := false, isOne(b.node.Op, api.OpAdd, api.OpSub)
	if isOne(n.Op, api.OpMul, api.OpDiv, api.OpMod) {
		first = isOne(a.node.Op, api.OpAdd, api.OpSub)
		second = second || isOne(b.node.Op, api.OpMul, api.OpDiv, api.OpMod)
	}
	sign := map[api.Op]string{api.OpAdd: " + ", api.OpSub: " - ", api.OpMul: " * ", api.OpDiv: " / ", api.OpMod: " % "}[n.Op]
	return inside(sumText(a), first) + sign + inside(sumText(b), second)
}

// condText is a condition's text as the chapter tells it, and an operand's.
func condText(g grown) string {
	n := g.node
	switch n.Op {
	case api.OpTrue:
		return "TRUE"
	case api.OpFalse:
		return "FALSE"
	case api.OpNot:
		return "NOT " + inside(condText(g.kids[0]), isOne(g.kids[0].node.Op, api.OpAnd, api.OpOr))
	case api.OpAnd:
		return g.joined(" AND ", api.OpAnd, api.OpOr)
	case api.OpOr:
		return g.joined(" OR ", api.OpOr)
	case api.OpIn:
		return condText(g.kids[0]) + " IN (" + grown{kids: g.kids[1:]}.joined(", ") + ")"
	case api.OpTag:
		return lex.Quote(n.S)
	case api.OpText:
		return lex.Text(n.S)
	case api.OpClock:
		return "time"
	case api.OpTime:
		return strconv.FormatInt(n.N, 10)
	}
	return g.joined(map[api.Op]string{api.OpEq: " = ", api.OpNe: " != ", api.OpLt: " < ", api.OpLe: " <= ", api.OpGt: " > ", api.OpGe: " >= "}[n.Op])
}

func (g grown) joined(between string, inBrackets ...api.Op) string {
	var texts []string
	for _, kid := range g.kids {
		texts = append(texts, inside(condText(kid), isOne(kid.node.Op, inBrackets...)))
	}
	return strings.Join(texts, between)
}
