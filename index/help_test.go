package index

import (
	"fmt"
	"math/rand"
	"slices"
	"strings"
	"testing"

	"weir/api"
	"weir/expect"
)

// fails holds an error against a number; it must tell no place and no index.
func fails(t *testing.T, what any, err error, e api.Errno) {
	t.Helper()
	if wrong := expect.Wrong(err, e, expect.None, expect.None); wrong != "" {
		t.Errorf("%.200s: %v: %s", fmt.Sprint(what), err, wrong)
	}
}

// draw is a source with a fixed seed, so that each run draws the same.
func draw() *rand.Rand { return rand.New(rand.NewSource(1970)) }

// pick draws one of some things.
func pick[T any](chance *rand.Rand, l ...T) T { return l[chance.Intn(len(l))] }

// of is a series: its measure, its field, and keys and values of its tags.
func of(measure, field string, on ...string) api.Series {
	s := api.Series{Measure: measure, Field: field}
	for i := 0; i < len(on); i += 2 {
		s.Tags = append(s.Tags, api.Tag{Key: on[i], Value: on[i+1]})
	}
	return s
}

// rank is a text by which series stand in the document's order, told anew: a
// byte 1 begins each tag, a byte 0 ends what is ahead; no name has such a byte.
func rank(s api.Series) string {
	var b strings.Builder
	b.WriteString(s.Measure + "\x00")
	for _, on := range s.Tags {
		b.WriteString("\x01" + on.Key + "\x00" + on.Value + "\x00")
	}
	return b.String() + "\x00" + s.Field
}

func same(a, b api.Series) bool { return rank(a) == rank(b) }

func compare(a, b api.Series) int { return strings.Compare(rank(a), rank(b)) }

// is holds series against what they must be.
func is(t *testing.T, what any, l, want []api.Series) {
	t.Helper()
	if !slices.EqualFunc(l, want, same) {
		t.Errorf("%.300s: %.300s, not %.300s", fmt.Sprint(what), fmt.Sprint(l), fmt.Sprint(want))
	}
}

// are holds texts against what they must be.
func are(t *testing.T, what any, l []string, want ...string) {
	t.Helper()
	if !slices.Equal(l, want) {
		t.Errorf("%.300s: %q, not %q", fmt.Sprint(what), l, want)
	}
}

// tree is a node with its kids.
type tree struct {
	api.Node
	kids []tree
}

func op(o api.Op, kids ...tree) tree { return tree{api.Node{Op: o}, kids} }

func tagOf(name string) tree { return tree{api.Node{Op: api.OpTag, S: name}, nil} }

func text(s string) tree { return tree{api.Node{Op: api.OpText, S: s}, nil} }

func eq(name, value string) tree { return op(api.OpEq, tagOf(name), text(value)) }

// flat is a tree as a list of nodes.
func flat(r tree) []api.Node {
	n := r.Node
	n.Kids = len(r.kids)
	l := []api.Node{n}
	for _, k := range r.kids {
		l = append(l, flat(k)...)
	}
	return l
}

// value is what an operand is of tags.
func value(r tree, on []api.Tag) string {
	if r.Op == api.OpText {
		return r.S
	}
	for _, one := range on {
		if one.Key == r.S {
			return one.Value
		}
	}
	return ""
}

// truth tells whether a condition holds of tags.
func truth(r tree, on []api.Tag) bool {
	holds := func(k tree) bool { return truth(k, on) }
	switch r.Op {
	case api.OpTrue:
		return true
	case api.OpFalse:
		return false
	case api.OpNot:
		return !truth(r.kids[0], on)
	case api.OpAnd:
		return !slices.ContainsFunc(r.kids, func(k tree) bool { return !holds(k) })
	case api.OpOr:
		return slices.ContainsFunc(r.kids, holds)
	case api.OpEq:
		return value(r.kids[0], on) == value(r.kids[1], on)
	case api.OpNe:
		return value(r.kids[0], on) != value(r.kids[1], on)
	case api.OpIn:
		return slices.ContainsFunc(r.kids[1:], func(k tree) bool { return value(r.kids[0], on) == k.S })
	}
	panic("no condition")
}

// The names, values and fields of the series that are drawn: b is a tag, a field and a value too.
var (
	someMeasures = []string{"m", "mm", "time"}
	someNames    = []string{"a", "b", "é"}
	someTexts    = []string{"x", "y", "b", "time"}
	someFields   = []string{"v", "b"}
)

func someSeries(chance *rand.Rand) api.Series {
	s := of(pick(chance, someMeasures...), pick(chance, someFields...))
	for _, name := range someNames {
		if chance.Intn(2) == 0 {
			s.Tags = append(s.Tags, api.Tag{Key: name, Value: pick(chance, someTexts...)})
		}
	}
	return s
}

func someOperand(chance *rand.Rand) tree {
	if chance.Intn(4) == 0 {
		return text(pick(chance, append(someTexts, "", "z")...))
	}
	return tagOf(pick(chance, append(someNames, "none")...))
}

// someCond draws a condition of at most so many levels, two at least.
func someCond(chance *rand.Rand, deep int) tree {
	o := pick(chance, api.OpEq, api.OpNe, api.OpIn, api.OpTrue, api.OpFalse)
	if deep > 2 && chance.Intn(3) > 0 {
		o = pick(chance, api.OpNot, api.OpAnd, api.OpOr)
	}
	r := op(o)
	r.Pos = chance.Intn(9) - 4
	switch o {
	case api.OpNot:
		r.kids = []tree{someCond(chance, deep-1)}
	case api.OpAnd, api.OpOr:
		for range 2 + chance.Intn(3) {
			r.kids = append(r.kids, someCond(chance, deep-1))
		}
	case api.OpEq, api.OpNe:
		r.kids = []tree{someOperand(chance), someOperand(chance)}
	case api.OpIn:
		r.kids = []tree{someOperand(chance)}
		for range 1 + chance.Intn(4) {
			r.kids = append(r.kids, text(pick(chance, append(someTexts, "", "z")...)))
		}
	}
	return r
}

// model is series in a list, which is gone through for each answer.
type model []api.Series

func (m model) has(s api.Series) bool {
	return slices.ContainsFunc(m, func(one api.Series) bool { return same(one, s) })
}

// with are those of which something holds, in order.
func (m model) with(holds func(api.Series) bool) []api.Series {
	var l []api.Series
	for _, s := range m {
		if holds(s) {
			l = append(l, s)
		}
	}
	slices.SortFunc(l, compare)
	return l
}

// texts are what is told of the series of a measure, rising, each once.
func (m model) texts(measure string, told func(api.Series) []string) []string {
	var l []string
	for _, s := range m {
		if s.Measure == measure {
			l = append(l, told(s)...)
		}
	}
	slices.Sort(l)
	return slices.Compact(l)
}

// agree holds all that an index tells against a model.
func agree(t *testing.T, what any, x *Index, m model) {
	t.Helper()
	if x.Len() != len(m) {
		t.Errorf("%v: %d series, not %d", what, x.Len(), len(m))
	}
	var measures []string
	for _, s := range m {
		measures = append(measures, s.Measure)
	}
	slices.Sort(measures)
	are(t, what, x.Measures(), slices.Compact(measures)...)
	for _, measure := range append(someMeasures, "", "none") {
		is(t, what, x.All(measure), m.with(func(s api.Series) bool { return s.Measure == measure }))
		are(t, what, x.Fields(measure), m.texts(measure, func(s api.Series) []string { return []string{s.Field} })...)
		are(t, what, x.Names(measure), m.texts(measure, func(s api.Series) []string {
			var l []string
			for _, on := range s.Tags {
				l = append(l, on.Key)
			}
			return l
		})...)
		for _, name := range append(someNames, "", "v", "time") {
			are(t, what, x.Values(measure, name), m.texts(measure, func(s api.Series) []string {
				if v := value(tagOf(name), s.Tags); v != "" {
					return []string{v}
				}
				return nil
			})...)
			for _, v := range append(someTexts, "", "none", "\xff") {
				is(t, what, x.Find(measure, name, v), m.with(func(s api.Series) bool {
					return s.Measure == measure && value(tagOf(name), s.Tags) == v
				}))
			}
		}
	}
}

// matches holds Match of a condition against a model.
func matches(t *testing.T, x *Index, m model, measure string, cond tree) {
	t.Helper()
	l, err := x.Match(measure, flat(cond))
	fails(t, cond, err, 0)
	is(t, cond, l, m.with(func(s api.Series) bool { return s.Measure == measure && truth(cond, s.Tags) }))
}

// grown is an index of some series that are drawn, and a model of them.
func grown(t *testing.T, chance *rand.Rand, n int) (*Index, model) {
	t.Helper()
	x, m := New(), model(nil)
	for range n {
		s := someSeries(chance)
		if m.has(s) {
			fails(t, s, x.Add(s), api.ErrKnown)
			continue
		}
		fails(t, s, x.Add(s), 0)
		m = append(m, s)
	}
	return x, m
}
