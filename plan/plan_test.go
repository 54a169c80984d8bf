package plan

import (
	"math"
	"math/big"
	"reflect"
	"slices"
	"strings"
	"testing"

	"weir/api"
	"weir/ast"
	"weir/expect"
	"weir/fault"
	"weir/norm"
	"weir/parse"
	"weir/sample"
)

// The chapter's examples.
func TestExamples(t *testing.T) {
	const tail = " FROM cpu GROUP BY time(1h)"
	for s, want := range map[string][2]string{
		"mean(v) AS m, sum(v) AS s, count(v) AS c": {
			"acc 0 sum v\nacc 1 count v\nacc 2 sum v\nacc 3 count v\nout m ratio acc 0 acc 1\nout s acc 2\nout c acc 3\n",
			"acc 0 sum v\nacc 1 count v\nout m ratio acc 0 acc 1\nout s acc 0\nout c acc 1\n",
		},
		"max(v) * (2 + 3) AS x": {"acc 0 max v\nout x mul acc 0 add int 2 int 3\n", "acc 0 max v\nout x mul acc 0 int 5\n"},
		"max(v) + 1 + 2 AS x":   {"acc 0 max v\nout x add add acc 0 int 1 int 2\n", "acc 0 max v\nout x add add acc 0 int 1 int 2\n"},
		"spread(v) AS x":        {"acc 0 max v\nacc 1 min v\nout x sub acc 0 acc 1\n", "acc 0 max v\nacc 1 min v\nout x sub acc 0 acc 1\n"},
		"-first(v) / last(w) % min(v) AS x, spread(v) - mean(w) AS y": {
			"acc 0 first v\nacc 1 last w\nacc 2 min v\nacc 3 max v\nacc 4 min v\nacc 5 sum w\nacc 6 count w\nout x mod div neg acc 0 acc 1 acc 2\nout y sub sub acc 3 acc 4 ratio acc 5 acc 6\n",
			"acc 0 first v\nacc 1 last w\nacc 2 min v\nacc 3 max v\nacc 4 sum w\nacc 5 count w\nout x mod div neg acc 0 acc 1 acc 2\nout y sub sub acc 3 acc 2 ratio acc 4 acc 5\n",
		},
	} {
		q := made(t, parse.Query, "SELECT "+s+tail)
		const head = "from cpu\nwindow 1h 0s\n"
		if got := made(t, Explain, made(t, Plain, q)); got != head+want[0] {
			t.Errorf("%s: %s", s, got)
		}
		if got := made(t, Explain, made(t, Best, q)); got != head+want[1] {
			t.Errorf("%s: %s", s, got)
		}
	}
}

// P17.4: all lines.
func TestExplain(t *testing.T) {
	q := made(t, parse.Query, `SELECT mean("a b") * -7 AS "time of" INTO "from" FROM "group" WHERE NOT (zone IN ('b', 'a') OR 5 > time) GROUP BY time(90m, 5s), "by", host`)
	for got, want := range map[string]string{
		made(t, Explain, made(t, Plain, q)): `from "group"
into "from"
window 90m 5s
group "by"
group host
where NOT (zone IN ('b', 'a') OR 5 > time)
acc 0 sum "a b"
acc 1 count "a b"
out "time of" mul ratio acc 0 acc 1 int -7
`,
		made(t, Explain, made(t, Best, q)): `from "group"
into "from"
window 90m 5s
group "by"
group host
where NOT zone IN ('a', 'b') AND time >= 5
acc 0 sum "a b"
acc 1 count "a b"
out "time of" mul ratio acc 0 acc 1 int -7
`,
	} {
		if got != want {
			t.Errorf("%s, not %s", got, want)
		}
	}
	p := api.Plan{From: "a", Every: 1, Outs: []api.Out{{Alias: "x", Tree: []api.Node{sample.Int(-math.MaxInt64)}}}}
	if got := made(t, Explain, p); got != "from a\nwindow 1ns 0s\nout x int -9223372036854775807\n" {
		t.Error(got)
	}
	s, err := Explain(api.Plan{})
	fails(t, "zero", err, api.ErrPlan, expect.None)
	if s != "" {
		t.Errorf("%q beside an error", s)
	}
}

// planner tells anew what Plain does.
type planner struct{ accs []api.Acc }

func (p *planner) acc(f api.Func, field string) sample.Tree {
	p.accs = append(p.accs, api.Acc{Func: f, Field: field})
	return sample.Tree{Node: sample.Acc(len(p.accs) - 1)}
}

func (p *planner) tree(g sample.Tree) sample.Tree {
	if g.Op != api.OpCall {
		made := sample.Tree{Node: g.Node}
		for _, kid := range g.Under {
			made.Under = append(made.Under, p.tree(kid))
		}
		return made
	}
	above := func(op api.Op, a, b api.Func) sample.Tree {
		return sample.Tree{Node: sample.Node(op, 2), Under: []sample.Tree{p.acc(a, g.S), p.acc(b, g.S)}}
	}
	switch g.Func {
	case api.Mean:
		return above(api.OpRatio, api.TotalOf, api.Count)
	case api.Spread:
		return above(api.OpSub, api.Max, api.Min)
	}
	return p.acc(g.Func, g.S)
}

// plain is Plain told anew, of a query that has a plan.
func plain(q api.Query) api.Plan {
	var p planner
	plan := api.Plan{From: q.From.Text, Into: q.Into.Text, Every: q.Every, Offset: q.Offset}
	for _, group := range q.Groups {
		plan.Groups = append(plan.Groups, group.Text)
	}
	if len(q.Where) > 0 {
		plan.Where = sample.Grown(q.Where).Flat()
	}
	for _, item := range q.Items {
		plan.Outs = append(plan.Outs, api.Out{Alias: item.Alias.Text, Tree: p.tree(sample.Grown(item.Tree)).Flat()})
	}
	plan.Accs = p.accs
	return plan
}

// improver tells anew what Improve does.
type improver struct{ from, to []api.Acc }

// certain tells whether no accumulator stands in a tree.
func certain(g sample.Tree) bool {
	return g.Op != api.OpAcc && !slices.ContainsFunc(g.Under, func(kid sample.Tree) bool { return !certain(kid) })
}

// reckon folds a tree without accumulators.
func reckon(g sample.Tree) sample.Tree {
	made := sample.Tree{Node: g.Node}
	var numbers []*big.Int
	for _, kid := range g.Under {
		made.Under = append(made.Under, reckon(kid))
	}
	for _, kid := range made.Under {
		if kid.Op == api.OpInt {
			numbers = append(numbers, big.NewInt(kid.N))
		}
	}
	if g.Op == api.OpInt || len(numbers) < len(g.Under) {
		return made
	}
	n := sample.Reckoned(g.Op, numbers...)
	if n == nil || !n.IsInt64() || n.Int64() == math.MinInt64 {
		return made
	}
	return sample.Tree{Node: sample.Int(n.Int64())}
}

func (i *improver) tree(g sample.Tree) sample.Tree {
	if certain(g) {
		return reckon(g)
	}
	if g.Op == api.OpAcc {
		of := i.from[g.N]
		if !slices.Contains(i.to, of) {
			i.to = append(i.to, of)
		}
		g.N = int64(slices.Index(i.to, of))
	}
	made := sample.Tree{Node: g.Node}
	for _, kid := range g.Under {
		made.Under = append(made.Under, i.tree(kid))
	}
	return made
}

// improve is Improve told anew, of a right plan.
func improve(p api.Plan) api.Plan {
	i := improver{from: p.Accs}
	plan := api.Plan{From: p.From, Into: p.Into, Every: p.Every, Offset: p.Offset, Groups: p.Groups}
	if form, err := norm.Form(p.Where); err == nil && !ast.Same(form, []api.Node{sample.Node(api.OpTrue, 0)}) {
		plan.Where = form
	}
	for _, out := range p.Outs {
		plan.Outs = append(plan.Outs, api.Out{Alias: out.Alias, Tree: i.tree(sample.Grown(out.Tree)).Flat()})
	}
	plan.Accs = i.to
	return plan
}

// alike tells whether plans are the same, all places being 0; lists that are empty and that are none are one.
func alike(a, b api.Plan) bool { return reflect.DeepEqual(sample.CopyPlan(a), sample.CopyPlan(b)) }

// P17.1, P17.2, P17.5: any queries.
func TestAnyQueries(t *testing.T) {
	d := draw()
	for range 6000 {
		q := asked(d)
		got, want := made(t, Plain, q), plain(q)
		if !alike(got, want) {
			t.Fatalf("%v, not %v", got, want)
		}
		fails(t, got, Right(got), 0, expect.None)
		best := made(t, Best, q)
		if !alike(best, improve(want)) {
			t.Fatalf("%v, not %v", best, improve(want))
		}
		fails(t, best, Right(best), 0, expect.None)
	}
}

// value draws what an accumulator tells.
func value(d sample.Draw) api.Told {
	n := api.Value{N: sample.One(d, d.Number(), math.MinInt64, 0, 1, -1, 5)}
	return api.Told{Some: d(8) > 0, Value: sample.One(d, n, n, n, api.Value{Kind: api.Over})}
}

// outs is what the outs of a plan tell, if like accumulators tell alike.
func outs(p api.Plan, values map[api.Acc]api.Told) (l []api.Told) {
	for _, out := range p.Outs {
		l = append(l, told(sample.Grown(out.Tree), p.Accs, values))
	}
	return l
}

// told is what a plan's sum tells. Of a ratio it tells a number that hangs on both accumulators.
func told(g sample.Tree, accs []api.Acc, values map[api.Acc]api.Told) api.Told {
	if g.Op == api.OpAcc {
		return values[accs[g.N]]
	}
	if g.Op == api.OpInt {
		return sample.Whole(big.NewInt(g.N))
	}
	var of []api.Told
	for _, kid := range g.Under {
		of = append(of, told(kid, accs, values))
	}
	if g.Op == api.OpRatio {
		return sample.Operator(api.OpDiv, of...)
	}
	return sample.Operator(g.Op, of...)
}

// P17.2, P17.5, P17.6, P17.7: any plans.
func TestAnyPlans(t *testing.T) {
	d := draw()
	folded, shared, dropped := 0, 0, 0
	for range 6000 {
		p := d.Plan()
		got := made(t, Improve, p)
		if want := improve(p); !alike(got, want) {
			t.Fatalf("%v: %v, not %v", p, got, want)
		}
		fails(t, got, Right(got), 0, expect.None)
		if again := made(t, Improve, got); !alike(got, again) || !Same(got, again) {
			t.Fatalf("%v, then %v", got, again)
		}
		if Cost(got)-len(got.Where) > Cost(p)-len(p.Where) {
			t.Fatalf("%v costs more than %v", got, p)
		}
		named := map[api.Acc]int{}
		for i, out := range got.Outs {
			for _, n := range out.Tree {
				if n.Op == api.OpAcc {
					named[got.Accs[n.N]]++
				}
			}
			if len(out.Tree) < len(p.Outs[i].Tree) {
				folded++
			}
		}
		if len(named) != len(got.Accs) {
			t.Fatalf("%v has accumulators twice, or for nothing", got)
		}
		all := map[api.Acc]api.Told{}
		for _, one := range p.Accs {
			all[one] = value(d)
		}
		if len(all) < len(p.Accs) {
			shared++
		}
		if len(got.Accs) < len(all) {
			dropped++
		}
		if a, b := outs(p, all), outs(got, all); !slices.Equal(a, b) {
			t.Fatalf("%v tells %v, but %v tells %v", p, a, got, b)
		}
	}
	if folded < 500 || shared < 500 || dropped < 500 {
		t.Errorf("%d folded, %d shared, %d dropped", folded, shared, dropped)
	}
}

// P17.2: a condition that asks for nothing is none, one that never holds is one.
func TestWhere(t *testing.T) {
	for s, want := range map[string]string{
		"TRUE":                      "",
		"host = host":               "",
		"FALSE":                     "where FALSE\n",
		"host = 'a' OR TRUE":        "",
		"TRUE AND host = 'a'":       "where host = 'a'\n",
		"'b' = host AND 'a' = host": "where host = 'a' AND host = 'b'\n",
	} {
		q := made(t, parse.Query, "SELECT max(v) AS x FROM cpu WHERE "+s+" GROUP BY time(1h)")
		if got := made(t, Explain, made(t, Best, q)); got != "from cpu\nwindow 1h 0s\n"+want+"acc 0 max v\nout x acc 0\n" {
			t.Errorf("%s: %s", s, got)
		}
		if got := made(t, Plain, q); !ast.Same(got.Where, q.Where) {
			t.Errorf("%s: %v", s, got.Where)
		}
	}
}

// P17.2: a part without accumulators may have a level more than a sum.
func TestDeepest(t *testing.T) {
	tree := func(levels int, l ...api.Node) api.Plan {
		return api.Plan{From: "a", Every: 1, Accs: []api.Acc{{Func: api.Max, Field: "v"}}, Outs: []api.Out{{Alias: "x", Tree: sample.Neg(levels-ast.Depth(l), l...)}}}
	}
	overflow := sample.Above(api.OpAdd, sample.Int(math.MaxInt64), sample.Int(1))
	for _, c := range []struct {
		l, want []api.Node
	}{
		{[]api.Node{sample.Int(5)}, []api.Node{sample.Int(5)}},
		{sample.Above(api.OpAdd, sample.Int(5), sample.Int(2)), []api.Node{sample.Int(-7)}},
		{overflow, sample.Neg(63, overflow...)},
		{[]api.Node{sample.Acc(0)}, sample.Neg(64, sample.Acc(0))},
		{sample.Over(api.OpMul, []api.Node{sample.Acc(0)}, sample.Above(api.OpMul, sample.Int(2), sample.Int(3))), sample.Neg(62, sample.Above(api.OpMul, sample.Acc(0), sample.Int(6))...)},
	} {
		p := tree(api.MaxDeep+1, c.l...)
		if ast.Depth(p.Outs[0].Tree) != 65 {
			t.Fatalf("%d levels", ast.Depth(p.Outs[0].Tree))
		}
		if got := made(t, Improve, p); !slices.Equal(got.Outs[0].Tree, c.want) {
			t.Errorf("%v: %v, not %v", c.l, got.Outs[0].Tree, c.want)
		}
		fails(t, "a level more", Right(tree(api.MaxDeep+2, c.l...)), api.ErrPlan, expect.None)
	}
	item := sample.Neg(api.MaxDeep-1, sample.Call(api.Mean, "v"))
	q := api.Query{Items: []api.Item{{Tree: item, Alias: api.Label{Text: "m"}}}, From: api.Label{Text: "cpu"}, Every: 1}
	want := sample.Neg(api.MaxDeep-1, sample.Above(api.OpRatio, sample.Acc(0), sample.Acc(1))...)
	if got := made(t, Best, q); !slices.Equal(got.Outs[0].Tree, want) {
		t.Errorf("%v", got.Outs[0].Tree)
	}
}

// P17.1: what is told of a query that has no plan, and in which order.
func TestNoPlan(t *testing.T) {
	flaws := []struct {
		e     api.Errno
		index int
		make  func(q *api.Query)
	}{
		{api.ErrTree, 1, func(q *api.Query) { q.Items[1].Tree = nil }},
		{api.ErrEvery, expect.None, func(q *api.Query) { q.Every = 0 }},
		{api.ErrPlain, expect.None, func(q *api.Query) { q.Items[1].Alias.Text = "" }},
		{api.ErrPlain, expect.None, func(q *api.Query) { q.Items[2].Tree = []api.Node{sample.Int(1)} }},
		{api.ErrPlain, expect.None, func(q *api.Query) { q.Items[2].Tree = sample.Neg(2, sample.Int(1)) }},
		{api.ErrTwice, expect.None, func(q *api.Query) { q.Items[0].Alias.Text = q.Items[3].Alias.Text }},
		{api.ErrTwice, expect.None, func(q *api.Query) { q.Items[4].Alias.Text = q.Items[3].Alias.Text }},
	}
	const s = "SELECT max(v) AS a, min(v) AS b, 1 + mean(v) AS c, count(w) AS d, last(v) AS e FROM cpu GROUP BY time(1h)"
	for i, a := range flaws {
		for _, b := range flaws[i:] {
			q := made(t, parse.Query, s)
			b.make(&q)
			a.make(&q)
			for name, make := range map[string]func(api.Query) (api.Plan, error){"Plain": Plain, "Best": Best} {
				p, err := make(q)
				fails(t, name, err, a.e, a.index)
				if !reflect.DeepEqual(p, api.Plan{}) {
					t.Errorf("%v beside an error", p)
				}
			}
		}
	}
	p, err := Plain(api.Query{})
	fails(t, "zero", err, api.ErrTree, expect.None)
	if !reflect.DeepEqual(p, api.Plan{}) {
		t.Errorf("%v beside an error", p)
	}
	p, err = Improve(api.Plan{})
	fails(t, "zero", err, api.ErrPlan, expect.None)
	if !reflect.DeepEqual(p, api.Plan{}) {
		t.Errorf("%v beside an error", p)
	}
}

// P17.1: any queries, most of which have no plan.
func TestAnyQueriesAtAll(t *testing.T) {
	d := draw()
	told := map[api.Errno]int{}
	for range 5000 {
		q := d.Query()
		want := fault.Code(ast.Right(q))
		if want == 0 {
			names := map[string]int{}
			for _, item := range q.Items {
				names[item.Alias.Text]++
				if item.Alias.Text == "" || !slices.ContainsFunc(item.Tree, func(n api.Node) bool { return n.Op == api.OpCall }) {
					want = api.ErrPlain
				}
			}
			if want == 0 && len(names) < len(q.Items) {
				want = api.ErrTwice
			}
		}
		_, err := Plain(q)
		fails(t, q, err, want, expect.None)
		told[want]++
	}
	for _, e := range []api.Errno{0, api.ErrLong, api.ErrPlain, api.ErrTwice} {
		if told[e] == 0 {
			t.Errorf("the error %d did not come up", e)
		}
	}
}

// P17.3: each thing that a plan says makes another one, but Pos.
func TestSame(t *testing.T) {
	d := draw()
	for range 300 {
		p := d.Plan()
		other := sample.CopyPlan(p)
		for i := range other.Where {
			other.Where[i].Pos++
		}
		for i := range other.Outs {
			for j := range other.Outs[i].Tree {
				other.Outs[i].Tree[j].Pos++
			}
		}
		if !Same(p, other) || !Same(other, p) {
			t.Fatalf("%v is not the same as %v", p, other)
		}
		for name, change := range map[string]func(p *api.Plan){
			"From":   func(p *api.Plan) { p.From += "x" },
			"Into":   func(p *api.Plan) { p.Into += "x" },
			"Every":  func(p *api.Plan) { p.Every++ },
			"Offset": func(p *api.Plan) { p.Offset++ },
			"Groups": func(p *api.Plan) { p.Groups = append(p.Groups, "x") },
			"Where":  func(p *api.Plan) { p.Where = append(p.Where, api.Node{}) },
			"Accs":   func(p *api.Plan) { p.Accs = p.Accs[1:] },
			"Func":   func(p *api.Plan) { p.Accs[0].Func++ },
			"Field":  func(p *api.Plan) { p.Accs[0].Field += "x" },
			"Outs":   func(p *api.Plan) { p.Outs = p.Outs[1:] },
			"Alias":  func(p *api.Plan) { p.Outs[0].Alias += "x" },
			"Tree":   func(p *api.Plan) { p.Outs[0].Tree = append(p.Outs[0].Tree, api.Node{}) },
			"Op":     func(p *api.Plan) { p.Outs[0].Tree[0].Op++ },
			"NodeF":  func(p *api.Plan) { p.Outs[0].Tree[0].Func++ },
			"S":      func(p *api.Plan) { p.Outs[0].Tree[0].S += "x" },
			"N":      func(p *api.Plan) { p.Outs[0].Tree[0].N++ },
			"Kids":   func(p *api.Plan) { p.Outs[0].Tree[0].Kids++ },
		} {
			other := sample.CopyPlan(p)
			change(&other)
			if Same(p, other) || Same(other, p) {
				t.Fatalf("%s: %v is the same as %v", name, p, other)
			}
		}
	}
	if !Same(api.Plan{}, api.Plan{Groups: []string{}, Where: []api.Node{}, Accs: []api.Acc{}, Outs: []api.Out{}}) {
		t.Error("lists that are empty are not the same")
	}
}

// P17.3
func TestCost(t *testing.T) {
	d := draw()
	for range 300 {
		p := d.Plan()
		want := len(p.Where) + len(p.Accs)
		for _, line := range strings.Split(made(t, Explain, p), "\n") {
			if strings.HasPrefix(line, "out ") {
				for _, word := range strings.Fields(line)[2:] {
					if word >= "a" {
						want++
					}
				}
			}
		}
		if got := Cost(p); got != want {
			t.Fatalf("%v costs %d, not %d", p, got, want)
		}
	}
	if Cost(api.Plan{}) != 0 || Cost(api.Plan{From: "a", Groups: []string{"b"}, Outs: []api.Out{{Alias: "c"}}}) != 0 {
		t.Error("what has no node costs something")
	}
}

// P3: what is handed in stays, and what is told lies by itself.
func TestMemory(t *testing.T) {
	d := draw()
	for range 500 {
		p := d.Plan()
		in := sample.CopyPlan(p)
		kept := sample.CopyPlan(p)
		sample.SpoilPlan(made(t, Improve, in))
		made(t, Explain, in)
		if !reflect.DeepEqual(sample.SparePlan(in), sample.SparePlan(kept)) {
			t.Fatalf("%v, not %v", in, kept)
		}
		q := asked(d)
		before := ast.Copy(q)
		plan := made(t, Plain, q)
		same := sample.CopyPlan(plan)
		sample.SpoilPlan(made(t, Best, q))
		if !alike(plan, same) {
			t.Fatalf("%v, not %v", plan, same)
		}
		sample.SpoilPlan(plan)
		if !reflect.DeepEqual(q, before) {
			t.Fatalf("%v, not %v", q, before)
		}
	}
}
