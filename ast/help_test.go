package ast

import (
	"math"
	"math/rand"
	"strconv"
	"strings"
	"testing"

	"weir/api"
	"weir/expect"
	"weir/lex"
	"weir/sample"
)

// fails holds an error without a place against a number and an index.
func fails(t *testing.T, what any, err error, e api.Errno, index int) {
	t.Helper()
	if wrong := expect.Wrong(err, e, expect.None, index); wrong != "" {
		t.Errorf("%.300v: %v: %s", what, err, wrong)
	}
}

// draw draws from a source with a fixed seed, so that each run draws the same.
func draw() sample.Draw { return rand.New(rand.NewSource(1970)).Intn }

// isName and isText tell DOC.md's words anew.
func isName(s string) bool { return s != "" && len(s) <= 64 && plain(s) }

func isText(s string) bool { return s == "" || len(s) <= 256 && plain(s) }

func plain(s string) bool {
	return s == strings.ToValidUTF8(s, "") && strings.IndexFunc(s, func(r rune) bool { return r < 32 || r == 127 }) < 0
}

// only tells whether a node says nothing but what is told here.
func only(g sample.Tree, n api.Node) bool {
	n.Op, n.Pos, n.Kids = g.Node.Op, g.Node.Pos, g.Node.Kids
	return g.Node == n
}

// each tells whether there are so many trees, and each is right.
func each(l []sample.Tree, least, most int, right func(sample.Tree) bool) bool {
	for _, kid := range l {
		if !right(kid) {
			return false
		}
	}
	return least <= len(l) && len(l) <= most
}

// isSum is DOC.md's first table.
func isSum(g sample.Tree) bool {
	switch n := g.Node; n.Op {
	case api.OpInt:
		return len(g.Under) == 0 && n.N >= -math.MaxInt64 && only(g, api.Node{N: n.N})
	case api.OpCall:
		return len(g.Under) == 0 && 1 <= n.Func && n.Func <= 8 && isName(n.S) && n.S != "time" && only(g, api.Node{Func: n.Func, S: n.S})
	case api.OpNeg:
		return only(g, api.Node{}) && each(g.Under, 1, 1, isSum)
	case api.OpAdd, api.OpSub, api.OpMul, api.OpDiv, api.OpMod:
		return only(g, api.Node{}) && each(g.Under, 2, 2, isSum)
	}
	return false
}

// isCond is DOC.md's second table.
func isCond(g sample.Tree) bool {
	if !only(g, api.Node{}) {
		return false
	}
	switch g.Node.Op {
	case api.OpTrue, api.OpFalse:
		return len(g.Under) == 0
	case api.OpNot:
		return each(g.Under, 1, 1, isCond)
	case api.OpAnd, api.OpOr:
		return each(g.Under, 2, math.MaxInt, isCond)
	case api.OpEq, api.OpNe:
		return each(g.Under, 2, 2, isWord) || each(g.Under, 2, 2, isMoment)
	case api.OpLt, api.OpLe, api.OpGt, api.OpGe:
		return each(g.Under, 2, 2, isMoment)
	case api.OpIn:
		return each(g.Under, 2, 65, isWord) && each(g.Under[1:], 1, 64, func(kid sample.Tree) bool { return kid.Node.Op == api.OpText })
	}
	return false
}

func isWord(g sample.Tree) bool {
	n := g.Node
	right := n.Op == api.OpTag && isName(n.S) && n.S != "time" || n.Op == api.OpText && isText(n.S)
	return right && len(g.Under) == 0 && only(g, api.Node{S: n.S})
}

func isMoment(g sample.Tree) bool {
	n := g.Node
	right := n.Op == api.OpClock && n.N == 0 || n.Op == api.OpTime && n.N >= -math.MaxInt64
	return right && len(g.Under) == 0 && only(g, api.Node{N: n.N})
}

// inside is a text in brackets, if it has to be.
func inside(s string, brackets bool) string {
	if brackets {
		return "(" + s + ")"
	}
	return s
}

func isOne(op api.Op, of ...api.Op) bool {
	for _, o := range of {
		if op == o {
			return true
		}
	}
	return false
}

// sumText is a sum's text as the chapter tells it.
func sumText(g sample.Tree) string {
	n := g.Node
	switch n.Op {
	case api.OpInt:
		return strconv.FormatInt(n.N, 10)
	case api.OpCall:
		return []string{"", "count", "sum", "mean", "min", "max", "first", "last", "spread"}[n.Func] + "(" + lex.Quote(n.S) + ")"
	case api.OpNeg:
		return "-" + inside(sumText(g.Under[0]), g.Under[0].Node.Op != api.OpCall)
	}
	a, b := g.Under[0], g.Under[1]
	first, second := false, isOne(b.Node.Op, api.OpAdd, api.OpSub)
	if isOne(n.Op, api.OpMul, api.OpDiv, api.OpMod) {
		first = isOne(a.Node.Op, api.OpAdd, api.OpSub)
		second = second || isOne(b.Node.Op, api.OpMul, api.OpDiv, api.OpMod)
	}
	sign := map[api.Op]string{api.OpAdd: " + ", api.OpSub: " - ", api.OpMul: " * ", api.OpDiv: " / ", api.OpMod: " % "}[n.Op]
	return inside(sumText(a), first) + sign + inside(sumText(b), second)
}

// condText is a condition's text as the chapter tells it, and an operand's.
func condText(g sample.Tree) string {
	n := g.Node
	switch n.Op {
	case api.OpTrue:
		return "TRUE"
	case api.OpFalse:
		return "FALSE"
	case api.OpNot:
		return "NOT " + inside(condText(g.Under[0]), isOne(g.Under[0].Node.Op, api.OpAnd, api.OpOr))
	case api.OpAnd:
		return joined(g.Under, " AND ", api.OpAnd, api.OpOr)
	case api.OpOr:
		return joined(g.Under, " OR ", api.OpOr)
	case api.OpIn:
		return condText(g.Under[0]) + " IN (" + joined(g.Under[1:], ", ") + ")"
	case api.OpTag:
		return lex.Quote(n.S)
	case api.OpText:
		return lex.Text(n.S)
	case api.OpClock:
		return "time"
	case api.OpTime:
		return strconv.FormatInt(n.N, 10)
	}
	return joined(g.Under, map[api.Op]string{api.OpEq: " = ", api.OpNe: " != ", api.OpLt: " < ", api.OpLe: " <= ", api.OpGt: " > ", api.OpGe: " >= "}[n.Op])
}

func joined(l []sample.Tree, between string, inBrackets ...api.Op) string {
	var texts []string
	for _, kid := range l {
		texts = append(texts, inside(condText(kid), isOne(kid.Node.Op, inBrackets...)))
	}
	return strings.Join(texts, between)
}
