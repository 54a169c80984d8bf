package norm

import (
	"encoding/binary"
	"math"
	"math/big"
	"math/rand"
	"slices"
	"sort"
	"testing"

	"weir/api"
	"weir/ast"
	"weir/expect"
	"weir/parse"
	"weir/sample"
)

// fails holds an error without a place and an index against a number.
func fails(t *testing.T, what any, err error, e api.Errno) {
	t.Helper()
	if wrong := expect.Wrong(err, e, expect.None, expect.None); wrong != "" {
		t.Errorf("%.300v: %v: %s", what, err, wrong)
	}
}

// draw draws from a source with a fixed seed, so that each run draws the same.
func draw() sample.Draw { return rand.New(rand.NewSource(1970)).Intn }

// condOf and sumOf are the trees of texts.
func condOf(t *testing.T, s string) []api.Node {
	t.Helper()
	l, err := parse.Cond(s)
	fails(t, s, err, 0)
	return l
}

func sumOf(t *testing.T, s string) []api.Node {
	t.Helper()
	l, err := parse.Sum(s)
	fails(t, s, err, 0)
	return l
}

// textOf is a condition's text, for what a test tells.
func textOf(l []api.Node) string {
	s, err := ast.PrintCond(l)
	if err != nil {
		return err.Error()
	}
	return s
}

// grown is a tree told anew: a node with the trees of its kids.
type grown struct {
	api.Node
	kids []grown
}

// grow is the tree of nodes.
func grow(l []api.Node) grown {
	g, _ := growFrom(l)
	return g
}

func growFrom(l []api.Node) (grown, []api.Node) {
	g, rest := grown{Node: l[0]}, l[1:]
	g.Pos = 0
	for range g.Kids {
		var kid grown
		kid, rest = growFrom(rest)
		g.kids = append(g.kids, kid)
	}
	return g, rest
}

// flat is the nodes of a tree.
func (g grown) flat() []api.Node {
	n := g.Node
	n.Kids = len(g.kids)
	l := []api.Node{n}
	for _, kid := range g.kids {
		l = append(l, kid.flat()...)
	}
	return l
}

// made is a tree of kids.
func made(op api.Op, kids ...grown) grown { return grown{api.Node{Op: op}, kids} }

// rank is a row of bytes by which trees stand in the chapter's order: no text has a byte 0.
func (g grown) rank() string {
	var b []byte
	for _, n := range g.flat() {
		b = append(b, byte(n.Op))
		b = append(append(b, n.S...), 0)
		b = binary.BigEndian.AppendUint64(b, uint64(n.N)^1<<63)
		b = binary.BigEndian.AppendUint64(b, uint64(n.Kids))
	}
	return string(b)
}

// set are trees by their ranks, each once.
func set(l []grown) []grown {
	by := map[string]grown{}
	var ranks []string
	for _, g := range l {
		by[g.rank()] = g
	}
	for rank := range by {
		ranks = append(ranks, rank)
	}
	sort.Strings(ranks)
	var all []grown
	for _, rank := range ranks {
		all = append(all, by[rank])
	}
	return all
}

// text is an operand's text of some tags, time its time of one.
func (g grown) text(tags []api.Tag) string {
	if g.Op == api.OpTag {
		for _, tag := range tags {
			if tag.Key == g.S {
				return tag.Value
			}
		}
	}
	if g.Op == api.OpText {
		return g.S
	}
	return ""
}

func (g grown) time(t int64) int64 {
	if g.Op == api.OpClock {
		return t
	}
	return g.N
}

// truth is whether a condition holds, as DOC.md's words say.
func (g grown) truth(tags []api.Tag, t int64) bool {
	one := func(truth bool) bool {
		return slices.ContainsFunc(g.kids, func(kid grown) bool { return kid.truth(tags, t) == truth })
	}
	switch g.Op {
	case api.OpTrue:
		return true
	case api.OpFalse:
		return false
	case api.OpNot:
		return one(false)
	case api.OpAnd:
		return !one(false)
	case api.OpOr:
		return one(true)
	case api.OpIn:
		return slices.ContainsFunc(g.kids[1:], func(kid grown) bool { return kid.S == g.kids[0].text(tags) })
	}
	a, b := g.kids[0], g.kids[1]
	less, same := a.time(t) < b.time(t), a.time(t) == b.time(t)
	if a.Op == api.OpTag || a.Op == api.OpText {
		same = a.text(tags) == b.text(tags)
	}
	return map[api.Op]bool{api.OpEq: same, api.OpNe: !same, api.OpLt: less, api.OpLe: less || same, api.OpGt: !less && !same, api.OpGe: !less}[g.Op]
}

// sure tells whether a comparison, or an OpIn, hangs on nothing.
func (g grown) sure() bool {
	switch g.Op {
	case api.OpIn:
		return g.kids[0].Op == api.OpText
	case api.OpEq, api.OpNe, api.OpLt, api.OpLe, api.OpGt, api.OpGe:
		return g.kids[0].Op == g.kids[1].Op && g.kids[0].S == g.kids[1].S || g.kids[0].Op == api.OpText && g.kids[1].Op == api.OpText
	}
	return false
}

func truthOf(truth bool) grown {
	if truth {
		return made(api.OpTrue)
	}
	return made(api.OpFalse)
}

// folded is a condition folded, as the chapter tells it.
func (g grown) folded() grown {
	if g.sure() {
		return truthOf(g.truth(nil, 0))
	}
	if !slices.Contains([]api.Op{api.OpNot, api.OpAnd, api.OpOr}, g.Op) {
		return g
	}
	all := made(g.Op)
	nothing, end := truthOf(g.Op == api.OpAnd), truthOf(g.Op == api.OpOr)
	ended := false
	for _, kid := range g.kids {
		kid = kid.folded()
		ended = ended || kid.Op == end.Op
		if g.Op == api.OpNot || kid.Op != nothing.Op {
			all.kids = append(all.kids, kid)
		}
	}
	switch {
	case g.Op == api.OpNot && (all.kids[0].Op == api.OpTrue || all.kids[0].Op == api.OpFalse):
		return truthOf(all.kids[0].Op == api.OpFalse)
	case g.Op == api.OpNot:
		return all
	case ended:
		return end
	case len(all.kids) == 0:
		return nothing
	case len(all.kids) == 1:
		return all.kids[0]
	}
	return all
}

// plainly are the chapter's steps 1 to 3 at once: what is below an odd number of OpNot is told as its opposite.
func (g grown) plainly(odd bool) grown {
	other := map[api.Op]api.Op{
		api.OpAnd: api.OpOr, api.OpOr: api.OpAnd, api.OpTrue: api.OpFalse, api.OpFalse: api.OpTrue, api.OpEq: api.OpNe, api.OpNe: api.OpEq,
		api.OpLt: api.OpGe, api.OpGe: api.OpLt, api.OpGt: api.OpLe, api.OpLe: api.OpGt,
	}
	switch g.Op {
	case api.OpNot:
		return g.kids[0].plainly(!odd)
	case api.OpIn:
		in := made(api.OpIn, append(g.kids[:1:1], set(g.kids[1:])...)...)
		if len(in.kids) == 2 {
			in.Op = api.OpEq
			return in.plainly(odd)
		}
		if odd {
			return made(api.OpNot, in)
		}
		return in
	}
	op := g.Op
	if odd {
		op = other[op]
	}
	all := made(op)
	switch g.Op {
	case api.OpAnd, api.OpOr:
		for _, kid := range g.kids {
			all.kids = append(all.kids, kid.plainly(odd))
		}
		return all
	case api.OpTrue, api.OpFalse:
		return all
	}
	a, b := g.kids[0], g.kids[1]
	swap := a.Op == api.OpText && b.Op == api.OpTag || a.Op == api.OpTime && b.Op == api.OpClock || a.Op == api.OpTag && b.Op == api.OpTag && b.S < a.S
	if !swap {
		return made(op, a, b)
	}
	for _, pair := range [][2]api.Op{{api.OpLt, api.OpGt}, {api.OpGt, api.OpLt}, {api.OpLe, api.OpGe}, {api.OpGe, api.OpLe}} {
		if op == pair[0] {
			return made(pair[1], b, a)
		}
	}
	return made(op, b, a)
}

// gathered is the chapter's step 5.
func (g grown) gathered() grown {
	if g.Op != api.OpAnd && g.Op != api.OpOr {
		return g
	}
	var kids []grown
	for _, kid := range g.kids {
		if kid = kid.gathered(); kid.Op == g.Op {
			kids = append(kids, kid.kids...)
		} else {
			kids = append(kids, kid)
		}
	}
	if kids = set(kids); len(kids) == 1 {
		return kids[0]
	}
	return made(g.Op, kids...)
}

// formed is a condition's form.
func (g grown) formed() grown { return g.plainly(false).folded().gathered() }

// stretch is a span of times without bounds; nil: none.
type stretch *[2]*big.Int

// can is what can hold of a form, as the chapter tells it.
func (g grown) can() stretch {
	most := new(big.Int).Lsh(big.NewInt(1), 62)
	first, last := new(big.Int).Neg(most), new(big.Int).Add(most, big.NewInt(1))
	cut := func(from, to *big.Int) stretch {
		if from.Cmp(first) < 0 {
			from = first
		}
		if to.Cmp(last) > 0 {
			to = last
		}
		if from.Cmp(to) >= 0 {
			return nil
		}
		return &[2]*big.Int{from, to}
	}
	switch g.Op {
	case api.OpFalse:
		return nil
	case api.OpAnd, api.OpOr:
		return g.joint()
	case api.OpEq, api.OpNe, api.OpLt, api.OpLe, api.OpGt, api.OpGe:
		if g.kids[0].Op == api.OpClock {
			n := big.NewInt(g.kids[1].N)
			next := new(big.Int).Add(n, big.NewInt(1))
			switch g.Op {
			case api.OpEq:
				return cut(n, next)
			case api.OpLt:
				return cut(first, n)
			case api.OpLe:
				return cut(first, next)
			case api.OpGt:
				return cut(next, last)
			case api.OpGe:
				return cut(n, last)
			}
		}
	}
	return cut(first, last)
}

// joint is what can hold of an OpAnd or an OpOr.
func (g grown) joint() stretch {
	var all []stretch
	for _, kid := range g.kids {
		if s := kid.can(); s != nil {
			all = append(all, s)
		} else if g.Op == api.OpAnd {
			return nil
		}
	}
	if len(all) == 0 {
		return nil
	}
	low := slices.MaxFunc(all, func(a, b stretch) int { return a[0].Cmp(b[0]) })[0]
	high := slices.MinFunc(all, func(a, b stretch) int { return a[1].Cmp(b[1]) })[1]
	if g.Op == api.OpOr {
		low = slices.MinFunc(all, func(a, b stretch) int { return a[0].Cmp(b[0]) })[0]
		high = slices.MaxFunc(all, func(a, b stretch) int { return a[1].Cmp(b[1]) })[1]
	}
	if low.Cmp(high) >= 0 {
		return nil
	}
	return &[2]*big.Int{low, high}
}

// The few texts and times of the conditions that are drawn, so that like ones meet.
var (
	fewNames = []string{"a", "b", "é"}
	fewTexts = []string{"", "x", "y", "a"}
	fewTimes = []int64{0, 1, 2, 5, -1, api.MaxTime, api.MaxTime - 1, api.MaxTime + 1, -api.MaxTime, -api.MaxTime - 1, 1 - api.MaxTime, math.MaxInt64, math.MaxInt64 - 1, -math.MaxInt64}
)

// someCond draws a right condition of few words.
func someCond(d sample.Draw, levels int) []api.Node {
	l := d.Cond(levels)
	for i := range l {
		n := &l[i]
		n.Pos = d(99)
		switch n.Op {
		case api.OpTag:
			n.S = sample.One(d, fewNames...)
		case api.OpText:
			n.S = sample.One(d, fewTexts...)
		case api.OpTime:
			n.N = sample.One(d, fewTimes...)
		}
	}
	return l
}

// someTags draws tags of few words, and some that may not be.
func someTags(d sample.Draw) []api.Tag {
	var tags []api.Tag
	for range d(4) {
		tags = append(tags, api.Tag{Key: sample.One(d, append(fewNames, "")...), Value: sample.One(d, fewTexts...)})
	}
	return tags
}

// someTime draws a time beside one of the few.
func someTime(d sample.Draw) int64 {
	t := sample.One(d, append(fewTimes, math.MinInt64)...)
	return sample.One(d, t, t-1, t+1)
}
