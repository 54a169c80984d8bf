// Package sample draws trees, queries, plans and programs of all kinds, tells anew what they say, and runs code, for the tests of the layers that are given some. Tests alone ask it; the program does not.
package sample

import (
	"math"
	"slices"
	"strings"

	"weir/api"
)

// Draw draws a number from 0 on and below n. What is drawn hangs on it alone.
type Draw func(n int) int

// One draws one of some.
func One[T any](d Draw, l ...T) T { return l[d(len(l))] }

// Node is a node that says nothing but what it is, with so many kids.
func Node(op api.Op, kids int) api.Node { return api.Node{Op: op, Kids: kids} }

// Call is the call of a function of a field.
func Call(f api.Func, field string) api.Node { return api.Node{Op: api.OpCall, Func: f, S: field} }

// Int is a number in a sum.
func Int(n int64) api.Node { return api.Node{Op: api.OpInt, N: n} }

// Tag is a tag in a condition.
func Tag(s string) api.Node { return api.Node{Op: api.OpTag, S: s} }

// Text is a text in a condition.
func Text(s string) api.Node { return api.Node{Op: api.OpText, S: s} }

// Time is a number in a condition.
func Time(n int64) api.Node { return api.Node{Op: api.OpTime, N: n} }

// Over is the tree of a node above trees.
func Over(op api.Op, trees ...[]api.Node) []api.Node {
	return append([]api.Node{Node(op, len(trees))}, slices.Concat(trees...)...)
}

// Above is the tree of a node above leaves.
func Above(op api.Op, leaves ...api.Node) []api.Node {
	return append([]api.Node{Node(op, len(leaves))}, leaves...)
}

// Name draws a name that is not time.
func (d Draw) Name() string {
	return One(d, "v", "w", "host", "zone", "Time", "TIME", "select", "a b", "a\"b", "a\\", "mean", "last", "é", "1h", "5", "a'b", strings.Repeat("n", api.MaxName))
}

// Text draws a text, or none.
func (d Draw) Text() string {
	return One(d, "", "a", "b", "it's", "a\\", "  ", "time", "\"", "(", "é", "1970-01-01T00:00:00Z", strings.Repeat("t", api.MaxText))
}

// Number draws a number that has an opposite.
func (d Draw) Number() int64 {
	large := int64(d(1<<31))<<32 | int64(d(1<<31))
	return One(d, 0, 1, -1, 2, 7, -60, 3600000000000, math.MaxInt64, -math.MaxInt64, large, -large)
}

// Sum draws a right sum of at most so many levels.
func (d Draw) Sum(levels int) []api.Node {
	kind := d(8)
	switch {
	case levels <= 1 || kind < 2:
		return []api.Node{One(d, Int(d.Number()), Call(api.Func(1+d(8)), d.Name()))}
	case kind == 2:
		return Over(api.OpNeg, d.Sum(levels-1))
	}
	return Over(One(d, api.OpAdd, api.OpSub, api.OpMul, api.OpDiv, api.OpMod), d.Sum(levels-1), d.Sum(levels-1))
}

// Cond draws a right condition of at most so many levels.
func (d Draw) Cond(levels int) []api.Node {
	kind := d(10)
	switch {
	case levels <= 1 || kind == 0:
		return []api.Node{Node(One(d, api.OpTrue, api.OpFalse), 0)}
	case levels == 2 || kind < 5:
		return d.Comparison()
	case kind == 5:
		return Over(api.OpNot, d.Cond(levels-1))
	}
	return d.Joined(2+d(3), levels)
}

// Joined draws so many conditions under AND or OR.
func (d Draw) Joined(kids, levels int) []api.Node {
	var trees [][]api.Node
	for range kids {
		trees = append(trees, d.Cond(levels-1))
	}
	return Over(One(d, api.OpAnd, api.OpOr), trees...)
}

// Comparison draws one of two words, of two times, or of a word and a list.
func (d Draw) Comparison() []api.Node {
	switch d(3) {
	case 0:
		return Above(One(d, api.OpEq, api.OpNe), d.word(), d.word())
	case 1:
		return Above(One(d, api.OpEq, api.OpNe, api.OpLt, api.OpLe, api.OpGt, api.OpGe), d.moment(), d.moment())
	}
	l := []api.Node{d.word()}
	for range 1 + d(4) {
		l = append(l, Text(d.Text()))
	}
	return Above(api.OpIn, l...)
}

func (d Draw) word() api.Node { return One(d, Tag(d.Name()), Text(d.Text())) }

func (d Draw) moment() api.Node { return One(d, Node(api.OpClock, 0), Time(d.Number())) }

// Asked draws tags and a time, such as a condition speaks of.
func (d Draw) Asked(cond []api.Node) (tags []api.Tag, at int64) {
	var names []string
	texts, times := []string{"", "a"}, []int64{0, d.Number()}
	for _, n := range cond {
		switch n.Op {
		case api.OpTag:
			names = append(names, n.S)
		case api.OpText:
			texts = append(texts, n.S)
		case api.OpTime:
			times = append(times, n.N, n.N-1, n.N+1)
		}
	}
	slices.Sort(names)
	for _, name := range slices.Compact(names) {
		if d(4) > 0 {
			tags = append(tags, api.Tag{Key: name, Value: One(d, texts...)})
		}
	}
	return tags, One(d, times...)
}

// Spoil is a tree with one thing of it changed: most are wrong then.
func (d Draw) Spoil(l []api.Node) []api.Node {
	l = slices.Clone(l)
	n := &l[d(len(l))]
	switch d(7) {
	case 0:
		n.Op = api.Op(d(30))
	case 1:
		n.Func = One[api.Func](d, 0, 1, 8, 9, 255)
	case 2:
		n.S = One(d, "", "a", "time", "a\n", "\xff", "\x7f", strings.Repeat("n", api.MaxName+1), strings.Repeat("t", api.MaxText+1))
	case 3:
		n.N = One[int64](d, 0, 1, math.MinInt64, math.MinInt64+1)
	case 4:
		n.Kids += One(d, -1, 1)
	case 5:
		return l[:d(len(l))]
	case 6:
		n.Pos = d(99)
	}
	return l
}
