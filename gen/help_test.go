package gen

import (
	"math/rand"
	"reflect"
	"slices"
	"strconv"
	"strings"
	"testing"

	"weir/api"
	"weir/code"
	"weir/expect"
	"weir/sample"
)

// fails holds an error without a place and an index against a number.
func fails(t *testing.T, what any, err error, e api.Errno) {
	t.Helper()
	if wrong := expect.Wrong(err, e, expect.None, expect.None); wrong != "" {
		t.Errorf("%.2000v: %v: %s", what, err, wrong)
	}
}

// draw draws from a source with a fixed seed, so that each run draws the same.
func draw() sample.Draw { return rand.New(rand.NewSource(1970)).Intn }

// made is what a call makes of something, without an error.
func made[A, B any](t *testing.T, call func(A) (B, error), of A) B {
	t.Helper()
	b, err := call(of)
	fails(t, of, err, 0)
	return b
}

// samePrograms and samePlans tell whether all is the same; lists that are empty and that are none are one.
func samePrograms(a, b api.Program) bool {
	return reflect.DeepEqual(sample.CopyProgram(a), sample.CopyProgram(b))
}

func samePlans(a, b api.Plan) bool {
	return reflect.DeepEqual(sample.CopyPlan(a), sample.CopyPlan(b))
}

// writer tells anew what Make does: it writes lines, in which jumps go to labels that stand on lines of their own.
type writer struct {
	made   api.Program
	lines  []string
	labels int
}

// place is the number of a thing in a list, to which it is added, if it is not there.
func place[T any](l *[]T, one T) string {
	n := slices.IndexFunc(*l, func(other T) bool { return reflect.DeepEqual(one, other) })
	if n < 0 {
		n = len(*l)
		*l = append(*l, one)
	}
	return strconv.Itoa(n)
}

func (w *writer) line(parts ...string) { w.lines = append(w.lines, strings.Join(parts, " ")) }

// settled is a condition's truth, if it hangs on nothing.
func settled(g sample.Tree) (truth, certain bool) {
	var ops []api.Op
	for _, kid := range g.Under {
		ops = append(ops, kid.Op)
	}
	switch {
	case g.Op == api.OpTrue || g.Op == api.OpFalse:
		return g.Op == api.OpTrue, true
	case g.Op == api.OpIn && ops[0] == api.OpText:
		return slices.ContainsFunc(g.Under[1:], func(kid sample.Tree) bool { return kid.S == g.Under[0].S }), true
	case slices.Equal(ops, []api.Op{api.OpText, api.OpText}) && g.Op != api.OpIn:
		return (g.Under[0].S == g.Under[1].S) == (g.Op == api.OpEq), true
	case slices.Equal(ops, []api.Op{api.OpTime, api.OpTime}), slices.Equal(ops, []api.Op{api.OpClock, api.OpClock}):
		a, b := g.Under[0].N, g.Under[1].N
		return map[api.Op]bool{api.OpEq: a == b, api.OpNe: a != b, api.OpLt: a < b, api.OpLe: a <= b, api.OpGt: a > b, api.OpGe: a >= b}[g.Op], true
	}
	return false, false
}

// faced is a comparison with the tag, or the time, first.
func faced(g sample.Tree) sample.Tree {
	if g.Op == api.OpIn || len(g.Under) != 2 {
		return g
	}
	if first := g.Under[0].Op; first != api.OpText && first != api.OpTime {
		return g
	}
	other := map[api.Op]api.Op{api.OpEq: api.OpEq, api.OpNe: api.OpNe, api.OpLt: api.OpGt, api.OpLe: api.OpGe, api.OpGt: api.OpLt, api.OpGe: api.OpLe}
	g.Op = other[g.Op]
	g.Under = []sample.Tree{g.Under[1], g.Under[0]}
	return g
}

func (w *writer) cond(g sample.Tree) {
	if truth, certain := settled(g); certain {
		w.line("push" + strconv.FormatBool(truth))
		return
	}
	p := &w.made
	switch g.Op {
	case api.OpNot:
		w.cond(g.Under[0])
		w.line("not")
		return
	case api.OpAnd, api.OpOr:
		w.labels++
		label := "label" + strconv.Itoa(w.labels)
		for i, kid := range g.Under {
			if i > 0 {
				w.line(map[api.Op]string{api.OpAnd: "jumpfalse", api.OpOr: "jumptrue"}[g.Op], label)
				w.line("pop")
			}
			w.cond(kid)
		}
		w.line(label + ":")
		return
	case api.OpIn:
		var texts []string
		for _, kid := range g.Under[1:] {
			texts = append(texts, kid.S)
		}
		w.line("pushin", place(&p.Names, g.Under[0].S), place(&p.Lists, texts))
		return
	}
	g = faced(g)
	first, second := g.Under[0], g.Under[1]
	switch {
	case first.Op == api.OpClock:
		sign := slices.Index([]api.Op{api.OpEq, api.OpNe, api.OpLt, api.OpLe, api.OpGt, api.OpGe}, g.Op)
		w.line("pushtime", strconv.Itoa(sign), place(&p.Times, second.N))
		return
	case second.Op == api.OpTag:
		w.line("pushsame", place(&p.Names, first.S), place(&p.Names, second.S))
	default:
		w.line("pushtag", place(&p.Names, first.S), place(&p.Texts, second.S))
	}
	if g.Op == api.OpNe {
		w.line("not")
	}
}

func (w *writer) sum(g sample.Tree) {
	number := func(g sample.Tree) string { return strconv.FormatInt(g.N, 10) }
	switch g.Op {
	case api.OpInt:
		w.line("loadint", place(&w.made.Ints, g.N))
	case api.OpAcc:
		w.line("loadacc", number(g))
	case api.OpRatio:
		w.line("ratio", number(g.Under[0]), number(g.Under[1]))
	default:
		for _, kid := range g.Under {
			w.sum(kid)
		}
		w.line(map[api.Op]string{api.OpNeg: "neg", api.OpAdd: "add", api.OpSub: "sub", api.OpMul: "mul", api.OpDiv: "div", api.OpMod: "mod"}[g.Op])
	}
}

// resolved are the lines without labels: jumps have the numbers of the lines that stand behind these.
func (w *writer) resolved() string {
	places := map[string]string{}
	var l []string
	for _, line := range w.lines {
		if label, is := strings.CutSuffix(line, ":"); is {
			places[label] = strconv.Itoa(len(l))
		} else {
			l = append(l, line)
		}
	}
	for i, line := range l {
		if word, label, _ := strings.Cut(line, " "); strings.HasPrefix(word, "jump") {
			l[i] = word + " " + places[label]
		}
	}
	return strings.Join(l, "\n") + "\n"
}

// expected is Make told anew, of a right plan.
func expected(t *testing.T, p api.Plan) api.Program {
	t.Helper()
	w := writer{made: api.Program{From: p.From, Into: p.Into, Every: p.Every, Offset: p.Offset, Groups: p.Groups, Accs: p.Accs}}
	if len(p.Where) > 0 {
		w.cond(sample.Grown(p.Where))
	} else {
		w.line("pushtrue")
	}
	w.line("accept")
	filter := w.resolved()
	w.lines = nil
	for i, out := range p.Outs {
		w.made.Aliases = append(w.made.Aliases, out.Alias)
		w.sum(sample.Grown(out.Tree))
		w.line("emit", strconv.Itoa(i))
	}
	w.line("done")
	instructions := made(t, code.Assemble, "from \"\"\ninto \"\"\nwindow 0 0\nfilter\n"+filter+"output\n"+w.resolved())
	w.made.Filter, w.made.Output = instructions.Filter, instructions.Output
	return w.made
}

// readable is the condition that is read back from the code of another one.
func readable(g sample.Tree) sample.Tree {
	if truth, certain := settled(g); certain {
		return sample.Tree{Node: sample.Node(map[bool]api.Op{true: api.OpTrue, false: api.OpFalse}[truth], 0)}
	}
	switch g.Op {
	case api.OpNot:
		kid := readable(g.Under[0])
		if kid.Op == api.OpEq && kid.Under[0].Op == api.OpTag {
			kid.Op = api.OpNe
			return kid
		}
		return sample.Tree{Node: g.Node, Under: []sample.Tree{kid}}
	case api.OpAnd, api.OpOr:
		whole := sample.Tree{Node: g.Node}
		for _, kid := range g.Under {
			whole.Under = append(whole.Under, readable(kid))
		}
		// The last one's jumps go where the others go.
		if last := len(whole.Under) - 1; whole.Under[last].Op == g.Op {
			whole.Under = slices.Concat(whole.Under[:last], whole.Under[last].Under)
		}
		return whole
	}
	return faced(g)
}

// answered is Back of Make told anew, of a right plan.
func answered(p api.Plan) api.Plan {
	p = sample.CopyPlan(p)
	if len(p.Where) > 0 {
		p.Where = readable(sample.Grown(p.Where)).Flat()
	}
	if len(p.Where) == 1 && p.Where[0].Op == api.OpTrue {
		p.Where = nil
	}
	for i := range p.Outs {
		p.Outs[i].Tree = sample.Grown(p.Outs[i].Tree).Flat()
	}
	return p
}

// deep draws a condition of so many levels.
func deep(d sample.Draw, levels int) []api.Node {
	ask := sample.Above(api.OpEq, sample.Tag("b"), sample.Text("z"))
	l := d.Comparison()
	for range levels - 2 {
		switch op := sample.One(d, api.OpNot, api.OpAnd, api.OpOr); {
		case op == api.OpNot:
			l = sample.Over(op, l)
		case d(2) == 0:
			l = sample.Over(op, l, ask)
		default:
			l = sample.Over(op, ask, l)
		}
	}
	return l
}
