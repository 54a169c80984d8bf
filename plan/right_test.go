package plan

import (
	"math"
	"slices"
	"strconv"
	"strings"
	"testing"

	"weir/api"
	"weir/ast"
	"weir/expect"
	"weir/fault"
	"weir/sample"
)

// isName tells DOC.md's word anew.
func isName(s string) bool {
	return s != "" && len(s) <= 64 && s == strings.ToValidUTF8(s, "") && strings.IndexFunc(s, func(r rune) bool { return r < 32 || r == 127 }) < 0
}

func isColumn(s string) bool { return isName(s) && s != "time" }

func isAcc(a api.Acc) bool {
	return slices.Contains([]api.Func{1, 2, 4, 5, 6, 7}, a.Func) && isColumn(a.Field)
}

// isSum is the chapter's word on a plan's sum.
func isSum(g sample.Tree, accs []api.Acc) bool {
	kids := func(n int) bool {
		return len(g.Under) == n && !slices.ContainsFunc(g.Under, func(kid sample.Tree) bool { return !isSum(kid, accs) })
	}
	if g.Func != 0 || g.S != "" {
		return false
	}
	switch g.Op {
	case api.OpInt:
		return kids(0) && g.N > math.MinInt64
	case api.OpAcc:
		return kids(0) && g.N >= 0 && int(g.N) < len(accs)
	}
	if g.N != 0 {
		return false
	}
	switch g.Op {
	case api.OpNeg:
		return kids(1)
	case api.OpAdd, api.OpSub, api.OpMul, api.OpDiv, api.OpMod:
		return kids(2)
	case api.OpRatio:
		if !kids(2) || g.Under[0].Op != api.OpAcc || g.Under[1].Op != api.OpAcc {
			return false
		}
		a, b := accs[g.Under[0].N], accs[g.Under[1].N]
		return a.Func == api.TotalOf && b.Func == api.Count && a.Field == b.Field
	}
	return false
}

// isRight is the chapter's word on a plan.
func isRight(p api.Plan) bool {
	names := map[string]int{}
	for _, out := range p.Outs {
		g, rest, whole := sample.Grow(out.Tree)
		if !isColumn(out.Alias) || !whole || len(rest) > 0 || g.Levels() > 65 || !isSum(g, p.Accs) {
			return false
		}
		names[out.Alias]++
	}
	for _, a := range p.Accs {
		if !isAcc(a) {
			return false
		}
	}
	for _, group := range p.Groups {
		if !isColumn(group) {
			return false
		}
	}
	return isName(p.From) && (p.Into == "" || isName(p.Into)) && 1 <= p.Every && p.Every <= 1<<58 && 0 <= p.Offset && p.Offset < p.Every &&
		len(p.Groups) <= 8 && (len(p.Where) == 0 || ast.Cond(p.Where) == nil) && 1 <= len(p.Outs) && len(p.Outs) <= 16 && len(names) == len(p.Outs)
}

// judged holds Right, Improve and Explain against the chapter's word.
func judged(t *testing.T, what any, p api.Plan) bool {
	t.Helper()
	want := api.Errno(0)
	if !isRight(p) {
		want = api.ErrPlan
	}
	_, improves := Improve(p)
	_, explains := Explain(p)
	for _, err := range []error{Right(p), improves, explains} {
		fails(t, what, err, want, expect.None)
	}
	return want == 0
}

// P17.3: any plans, of which one thing may be wrong.
func TestRight(t *testing.T) {
	d := draw()
	right := 0
	for range 25000 {
		p := sample.CopyPlan(d.Plan())
		out, a := &p.Outs[d(len(p.Outs))], &p.Accs[d(len(p.Accs))]
		switch d(5) {
		case 0:
			a.Func = api.Func(d(12))
		case 1:
			out.Tree = d.Spoil(out.Tree)
		case 2:
			n := &out.Tree[d(len(out.Tree))]
			n.N = int64(d(len(p.Accs)+3) - 1)
		case 3:
			p.Accs = p.Accs[:d(len(p.Accs)+1)]
		case 4:
			i := d(len(out.Tree))
			out.Tree = slices.Insert(slices.Delete(out.Tree, i, i+1), i, sample.Above(sample.One(d, api.OpRatio, api.OpAcc), sample.Acc(d(len(p.Accs))), sample.Acc(d(len(p.Accs))))...)
		}
		if judged(t, p, p) {
			right++
		}
	}
	if right < 2000 || right > 23000 {
		t.Errorf("%d were right", right)
	}
}

// base is a right plan with something in each of its parts.
func base() api.Plan {
	return api.Plan{
		From: "cpu", Into: "hourly", Every: 3600, Offset: 60, Groups: []string{"host", "zone"},
		Where: sample.Above(api.OpEq, sample.Tag("host"), sample.Text("a")),
		Accs:  []api.Acc{{Func: api.TotalOf, Field: "v"}, {Func: api.Count, Field: "v"}, {Func: api.Count, Field: "w"}},
		Outs:  []api.Out{{Alias: "m", Tree: sample.Above(api.OpRatio, sample.Acc(0), sample.Acc(1))}, {Alias: "n", Tree: []api.Node{sample.Acc(2)}}},
	}
}

// P17.3: the edges, part by part.
func TestEdges(t *testing.T) {
	names := []string{"", "time", "x", "a\n", "\xff", "\x7f", "é", "select", "a\"b", strings.Repeat("n", 64), strings.Repeat("n", 65), strings.Repeat("é", 32), strings.Repeat("é", 33)}
	deep := sample.Neg(63, sample.Node(api.OpTrue, 0))
	for i := range 63 {
		deep[i].Op = api.OpNot
	}
	changes := map[string]func(p *api.Plan){"nothing": func(*api.Plan) {}, "all": func(p *api.Plan) { *p = api.Plan{} }}
	for i, s := range names {
		n := strconv.Itoa(i)
		changes["From "+n] = func(p *api.Plan) { p.From = s }
		changes["Into "+n] = func(p *api.Plan) { p.Into = s }
		changes["Groups "+n] = func(p *api.Plan) { p.Groups[1] = s }
		changes["Field "+n] = func(p *api.Plan) { p.Accs[2].Field = s }
		changes["Alias "+n] = func(p *api.Plan) { p.Outs[1].Alias = s }
	}
	for _, n := range []int64{math.MinInt64, -1, 0, 1, 60, 61, api.MaxEvery, api.MaxEvery + 1, math.MaxInt64} {
		s := strconv.FormatInt(n, 10)
		changes["Every "+s] = func(p *api.Plan) { p.Every = n }
		changes["Offset "+s] = func(p *api.Plan) { p.Offset = n }
		changes["Every, Offset "+s] = func(p *api.Plan) { p.Every, p.Offset = n, n-1 }
		changes["N "+s] = func(p *api.Plan) { p.Outs[1].Tree[0].N = n }
		changes["Int "+s] = func(p *api.Plan) { p.Outs[1].Tree[0] = sample.Int(n) }
		changes["Ratio N "+s] = func(p *api.Plan) { p.Outs[0].Tree[1].N = n }
		changes["Second N "+s] = func(p *api.Plan) { p.Outs[0].Tree[2].N = n }
		changes["Kids "+s] = func(p *api.Plan) { p.Outs[0].Tree[0].Kids = int(n) }
		changes["Acc's Kids "+s] = func(p *api.Plan) { p.Outs[0].Tree[1].Kids = int(n) }
	}
	for n := range 20 {
		s := strconv.Itoa(n)
		changes["groups "+s] = func(p *api.Plan) { p.Groups = slices.Repeat([]string{"host"}, n) }
		changes["outs "+s] = func(p *api.Plan) {
			p.Outs = nil
			for i := range n {
				p.Outs = append(p.Outs, api.Out{Alias: "o" + strconv.Itoa(i), Tree: []api.Node{sample.Acc(0)}})
			}
		}
		changes["Func "+s] = func(p *api.Plan) { p.Accs[2].Func = api.Func(n) }
		changes["Func of the sum "+s] = func(p *api.Plan) { p.Accs[0].Func = api.Func(n) }
		changes["Func of the count "+s] = func(p *api.Plan) { p.Accs[1].Func = api.Func(n) }
		changes["Op "+s] = func(p *api.Plan) { p.Outs[0].Tree[0].Op = api.Op(n) }
		changes["Op of a kid "+s] = func(p *api.Plan) { p.Outs[0].Tree[2].Op = api.Op(n) }
		changes["Op of a leaf "+s] = func(p *api.Plan) { p.Outs[1].Tree[0].Op = api.Op(n) }
	}
	for name, change := range map[string]func(p *api.Plan){
		"the Func of no function": func(p *api.Plan) { p.Accs[2].Func = 255 },
		"no Where":                func(p *api.Plan) { p.Where = nil },
		"a sum for Where":         func(p *api.Plan) { p.Where = []api.Node{sample.Int(1)} },
		"half of Where":           func(p *api.Plan) { p.Where = p.Where[:2] },
		"the deepest Where":       func(p *api.Plan) { p.Where = deep },
		"too deep":                func(p *api.Plan) { p.Where = sample.Over(api.OpNot, deep) },
		"one name twice":          func(p *api.Plan) { p.Outs[1].Alias = "m" },
		"no Accs":                 func(p *api.Plan) { p.Accs = nil },
		"no Tree":                 func(p *api.Plan) { p.Outs[1].Tree = nil },
		"a node more":             func(p *api.Plan) { p.Outs[1].Tree = append(p.Outs[1].Tree, sample.Acc(1)) },
		"a ratio's end":           func(p *api.Plan) { p.Outs[0].Tree = p.Outs[0].Tree[:2] },
		"a ratio alone":           func(p *api.Plan) { p.Outs[0].Tree = p.Outs[0].Tree[:1] },
		"another field":           func(p *api.Plan) { p.Outs[0].Tree[2].N = 2 },
		"a call":                  func(p *api.Plan) { p.Outs[1].Tree = []api.Node{sample.Call(api.Max, "v")} },
		"a call beside":           func(p *api.Plan) { p.Outs[1].Tree = sample.Above(api.OpAdd, sample.Acc(1), sample.Call(api.Max, "v")) },
		"a condition":             func(p *api.Plan) { p.Outs[1].Tree = []api.Node{sample.Node(api.OpTrue, 0)} },
		"a number alone":          func(p *api.Plan) { p.Outs = []api.Out{{Alias: "x", Tree: []api.Node{sample.Int(7)}}} },
		"Func of an acc":          func(p *api.Plan) { p.Outs[1].Tree[0].Func = 1 },
		"S of an acc":             func(p *api.Plan) { p.Outs[1].Tree[0].S = "v" },
		"N of a ratio":            func(p *api.Plan) { p.Outs[0].Tree[0].N = 1 },
		"S of a ratio":            func(p *api.Plan) { p.Outs[0].Tree[0].S = "v" },
		"Func of a ratio":         func(p *api.Plan) { p.Outs[0].Tree[0].Func = 1 },
		"kids of a ratio": func(p *api.Plan) {
			p.Outs[0].Tree = sample.Above(api.OpRatio, sample.Acc(0), sample.Acc(1), sample.Acc(2))
		},
		"a ratio of a sum": func(p *api.Plan) {
			p.Outs[0].Tree = sample.Over(api.OpRatio, sample.Neg(1, sample.Acc(0)), []api.Node{sample.Acc(1)})
		},
		"a ratio of a number": func(p *api.Plan) { p.Outs[0].Tree = sample.Above(api.OpRatio, sample.Acc(0), sample.Int(1)) },
		"a ratio's parts":     func(p *api.Plan) { p.Outs[0].Tree = sample.Above(api.OpSub, sample.Acc(1), sample.Acc(0)) },
		"the wrong way round": func(p *api.Plan) { p.Outs[0].Tree = sample.Above(api.OpRatio, sample.Acc(1), sample.Acc(0)) },
		"the sum twice":       func(p *api.Plan) { p.Outs[0].Tree = sample.Above(api.OpRatio, sample.Acc(0), sample.Acc(0)) },
		"accs that are spare": func(p *api.Plan) { p.Accs = append(p.Accs, slices.Repeat(p.Accs, 100)...) },
	} {
		changes[name] = change
	}
	right := 0
	for name, change := range changes {
		p := base()
		change(&p)
		if judged(t, name, p) {
			right++
		}
	}
	if right < 50 || len(changes)-right < 50 {
		t.Errorf("%d of %d were right", right, len(changes))
	}
}

// P17.3: a plan may have a condition that is longer than a query, and the longest names.
func TestLongest(t *testing.T) {
	p := base()
	p.Where = sample.Over(api.OpOr, slices.Repeat([][]api.Node{p.Where}, 3000)...)
	p.Where[2].S = "zone"
	if !judged(t, "the longest condition", p) {
		t.Error("a long condition is wrong")
	}
	name := func(i int) string { return strings.Repeat(`"`, api.MaxName-1) + string(rune('a'+i)) }
	p.From, p.Into, p.Every, p.Offset, p.Groups, p.Outs = name(0), name(1), api.MaxEvery, api.MaxEvery-1, nil, nil
	for i := range api.MaxTags {
		p.Groups = append(p.Groups, name(i))
	}
	for i := range api.MaxFields {
		p.Outs = append(p.Outs, api.Out{Alias: name(i), Tree: []api.Node{sample.Acc(0)}})
	}
	if !judged(t, "the longest names", p) {
		t.Error("long names are wrong")
	}
}

// P1: lists of any length, any depth.
func TestAnyDepth(t *testing.T) {
	p := base()
	for _, l := range [][]api.Node{
		sample.Neg(1<<20, sample.Acc(0)),
		sample.Neg(1<<20, sample.Node(api.OpNeg, 1)),
		slices.Repeat([]api.Node{sample.Node(api.OpRatio, 2)}, 1<<20),
		slices.Repeat([]api.Node{sample.Node(api.OpAdd, math.MaxInt)}, 1<<10),
	} {
		p.Outs[0].Tree = l
		if fault.Code(Right(p)) != api.ErrPlan {
			t.Errorf("%d nodes are right", len(l))
		}
		if Cost(p) != len(l)+3+3+1 || !Same(p, p) {
			t.Error(Cost(p))
		}
	}
}
