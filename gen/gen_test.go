package gen

import (
	"math/big"
	"reflect"
	"slices"
	"strings"
	"testing"

	"weir/api"
	"weir/ast"
	"weir/code"
	"weir/key"
	"weir/norm"
	"weir/parse"
	"weir/plan"
	"weir/sample"
	"weir/verify"
)

// planOf is the plan of an item and a condition, as they stand.
func planOf(t *testing.T, item, cond string) api.Plan {
	t.Helper()
	q := made(t, parse.Query, "SELECT "+item+" AS m INTO hourly FROM cpu GROUP BY time(1h, 5s), host")
	if cond != "" {
		q.Where = made(t, parse.Cond, cond)
	}
	return made(t, plan.Plain, q)
}

// listed is a program's code on one line, and its lists.
func listed(t *testing.T, p api.Program) string {
	t.Helper()
	_, s, _ := strings.Cut(made(t, code.List, p), "alias \"m\"\n")
	return strings.ReplaceAll(strings.TrimSuffix(s, "\n"), "\n", ", ")
}

// The chapter's examples, and all other ways in which a condition can stand.
func TestConditions(t *testing.T) {
	for s, want := range map[string]string{
		"host = 'a' AND time >= 5": `name "host", text "a", time 5, filter, pushtag 0 0, jumpfalse 4, pop, pushtime 5 0, accept`,
		"'a' = host":               `name "host", text "a", filter, pushtag 0 0, accept`,
		"NOT host IN ('x', 'y')":   `name "host", list "x" "y", filter, pushin 0 0, not, accept`,
		"host != zone":             `name "host", name "zone", filter, pushsame 0 1, not, accept`,
		"zone = host":              `name "zone", name "host", filter, pushsame 0 1, accept`,
		"host = host":              `name "host", filter, pushsame 0 0, accept`,
		"(a = 'x' OR b = 'y') AND c = 'z'": `name "a", name "b", name "c", text "x", text "y", text "z", ` +
			`filter, pushtag 0 0, jumptrue 4, pop, pushtag 1 1, jumpfalse 7, pop, pushtag 2 2, accept`,
		"a = 'x' OR b != 'x' OR a = b": `name "a", name "b", text "x", filter, pushtag 0 0, jumptrue 8, pop, pushtag 1 0, not, jumptrue 8, pop, pushsame 0 1, accept`,
		"a = 'x' OR (b = 'x' OR c = 'x')": `name "a", name "b", name "c", text "x", ` +
			`filter, pushtag 0 0, jumptrue 7, pop, pushtag 1 0, jumptrue 7, pop, pushtag 2 0, accept`,
		"NOT (a = 'x' AND time = 3)": `name "a", text "x", time 3, filter, pushtag 0 0, jumpfalse 4, pop, pushtime 0 0, not, accept`,
		"NOT a = 'x'":                `name "a", text "x", filter, pushtag 0 0, not, accept`,
		"NOT NOT a != ''":            `name "a", text "", filter, pushtag 0 0, not, not, not, accept`,
		"'x' != a":                   `name "a", text "x", filter, pushtag 0 0, not, accept`,
		"TRUE":                       `filter, pushtrue, accept`,
		"FALSE":                      `filter, pushfalse, accept`,
		"":                           `filter, pushtrue, accept`,
		"'a' = 'a'":                  `filter, pushtrue, accept`,
		"'a' != 'a'":                 `filter, pushfalse, accept`,
		"'a' != 'b'":                 `filter, pushtrue, accept`,
		"'a' = 'b'":                  `filter, pushfalse, accept`,
		"'a' IN ('b', 'a')":          `filter, pushtrue, accept`,
		"'a' IN ('b')":               `filter, pushfalse, accept`,
		"5 < 6":                      `filter, pushtrue, accept`,
		"6 <= 5":                     `filter, pushfalse, accept`,
		"5 = 5":                      `filter, pushtrue, accept`,
		"time = time":                `filter, pushtrue, accept`,
		"time != time":               `filter, pushfalse, accept`,
		"time <= time":               `filter, pushtrue, accept`,
		"time > time":                `filter, pushfalse, accept`,
		"NOT TRUE":                   `filter, pushtrue, not, accept`,
		"time = 5 OR time != 5 OR time < 5 OR time <= 5 OR time > 5 OR time >= 5": `time 5, filter, pushtime 0 0, jumptrue 16, pop, pushtime 1 0, jumptrue 16, pop, ` +
			`pushtime 2 0, jumptrue 16, pop, pushtime 3 0, jumptrue 16, pop, pushtime 4 0, jumptrue 16, pop, pushtime 5 0, accept`,
		"5 = time OR 5 != time OR 5 < time OR 5 <= time OR 5 > time OR 7 >= time": `time 5, time 7, filter, pushtime 0 0, jumptrue 16, pop, pushtime 1 0, jumptrue 16, pop, ` +
			`pushtime 4 0, jumptrue 16, pop, pushtime 5 0, jumptrue 16, pop, pushtime 2 0, jumptrue 16, pop, pushtime 3 1, accept`,
		"b IN ('x', 'y') AND a IN ('y', 'x') AND a IN ('x', 'y') AND b IN ('x', 'x') AND b IN ('', 'x')": `name "b", name "a", list "x" "y", list "y" "x", list "x" "x", list "" "x", ` +
			`filter, pushin 0 0, jumpfalse 13, pop, pushin 1 1, jumpfalse 13, pop, pushin 1 0, jumpfalse 13, pop, pushin 0 2, jumpfalse 13, pop, pushin 0 3, accept`,
	} {
		p := planOf(t, "max(v)", s)
		if got := listed(t, made(t, Make, p)); got != want+", output, loadacc 0, emit 0, done" {
			t.Errorf("%s: %s", s, got)
		}
	}
}

// The chapter's third example, and all other parts of an item.
func TestItems(t *testing.T) {
	for s, want := range map[string]string{
		"mean(v) + 1":                `int 1, filter, pushtrue, accept, output, ratio 0 1, loadint 0, add`,
		"-max(v)":                    `filter, pushtrue, accept, output, loadacc 0, neg`,
		"min(v) - 2 * 3 / -2 % 2":    `int 2, int 3, int -2, filter, pushtrue, accept, output, loadacc 0, loadint 0, loadint 1, mul, loadint 2, div, loadint 0, mod, sub`,
		"(1 - sum(v)) * mean(w) - 1": `int 1, filter, pushtrue, accept, output, loadint 0, loadacc 0, sub, ratio 1 2, mul, loadint 0, sub`,
	} {
		if got := listed(t, made(t, Make, planOf(t, s, ""))); got != want+", emit 0, done" {
			t.Errorf("%s: %s", s, got)
		}
	}
	q := made(t, parse.Query, "SELECT mean(v) + 1 AS m FROM cpu WHERE time > 1 GROUP BY time(1h)")
	p := made(t, Make, made(t, plan.Best, q))
	if got := listed(t, p); got != "time 1, int 1, filter, pushtime 4 0, accept, output, ratio 0 1, loadint 0, add, emit 0, done" {
		t.Error(got)
	}
	q = made(t, parse.Query, "SELECT max(v) + 1 AS m, 2 - min(v) AS n, last(v) + 1 AS o FROM cpu GROUP BY time(1h)")
	p = made(t, Make, made(t, plan.Best, q))
	want := "alias \"n\", alias \"o\", int 1, int 2, filter, pushtrue, accept, " +
		"output, loadacc 0, loadint 0, add, emit 0, loadint 1, loadacc 1, sub, emit 1, loadacc 2, loadint 0, add, emit 2, done"
	if got := listed(t, p); got != want {
		t.Error(got)
	}
}

// P20.1, P20.2, P20.3: any plans.
func TestAnyPlans(t *testing.T) {
	d := draw()
	changed, empty := 0, 0
	for i := range 12000 {
		p := d.Plan()
		if i%4 == 0 {
			p.Where = deep(d, 2+d(api.MaxDeep-1))
		}
		x := made(t, Make, p)
		if want := expected(t, p); !samePrograms(x, want) {
			t.Fatalf("%v: %v, not %v", p, x, want)
		}
		fails(t, x, verify.Program(x), 0)
		back, want := made(t, Back, x), answered(p)
		if !samePlans(back, want) {
			t.Fatalf("%v: %v, not %v", p, back, want)
		}
		if again := made(t, Make, back); !samePrograms(again, x) || !code.Same(again, x) {
			t.Fatalf("%v: %v, not %v", back, again, x)
		}
		if len(back.Where) == 0 {
			empty++
		} else if !ast.Same(back.Where, p.Where) {
			changed++
		}
	}
	if changed < 2000 || empty < 2000 {
		t.Errorf("%d conditions were read as others, %d as none", changed, empty)
	}
}

// P20.3: a plan whose condition is a form comes back.
func TestForms(t *testing.T) {
	d := draw()
	conditions := 0
	for i := range 8000 {
		p := d.Plan()
		if i%4 == 0 {
			p.Where = deep(d, 2+d(api.MaxDeep-1))
		}
		if len(p.Where) > 0 {
			p.Where = made(t, norm.Form, p.Where)
		}
		if len(p.Where) == 1 && p.Where[0].Op == api.OpTrue {
			p.Where = nil
		}
		if len(p.Where) > 0 {
			conditions++
		}
		if back := made(t, Back, made(t, Make, p)); !plan.Same(back, p) || !samePlans(back, withoutPlaces(p)) {
			t.Fatalf("%v, not %v", back, p)
		}
	}
	if conditions < 3000 {
		t.Errorf("%d conditions", conditions)
	}
}

func withoutPlaces(p api.Plan) api.Plan {
	p = sample.CopyPlan(p)
	for i := range p.Where {
		p.Where[i].Pos = 0
	}
	for i := range p.Outs {
		for j := range p.Outs[i].Tree {
			p.Outs[i].Tree[j].Pos = 0
		}
	}
	return p
}

// asks tells what an instruction of a filter asks of tags and a time.
func asks(p api.Program, tags []api.Tag, at int64) func(api.Ins) bool {
	value := func(name int) string { return key.Value(tags, p.Names[name]) }
	return func(i api.Ins) bool {
		switch i.Code {
		case api.PushTag:
			return value(i.A) == p.Texts[i.B]
		case api.PushIn:
			return slices.Contains(p.Lists[i.B], value(i.A))
		case api.PushSame:
			return value(i.A) == value(i.B)
		}
		n := p.Times[i.B]
		return []bool{at == n, at != n, at < n, at <= n, at > n, at >= n}[i.A]
	}
}

// P20.4: code accepts what its condition holds of, and emits what its trees tell.
func TestRuns(t *testing.T) {
	d := draw()
	held, runs := 0, 0
	for range 6000 {
		p := d.Plan()
		x := made(t, Make, p)
		for range 8 {
			tags, at := d.Asked(p.Where)
			want := true
			if len(p.Where) > 0 {
				want, _ = norm.Holds(p.Where, tags, at)
			}
			got, _ := sample.Accepts(x.Filter, asks(x, tags, at))
			if got != want {
				t.Fatalf("%v of %v at %d: %v", p.Where, tags, at, got)
			}
			runs++
			if got && len(p.Where) > 0 {
				held++
			}
		}
		values := make([]api.Told, len(p.Accs))
		for i := range values {
			over := api.Told{Some: true, Value: api.Value{Kind: api.Over}}
			values[i] = sample.One(d, over, api.Told{}, sample.Whole(big.NewInt(d.Number())), sample.Whole(big.NewInt(int64(d(20)))))
		}
		told, _ := sample.Emits(x, func(n int) api.Told { return values[n] })
		for i, out := range p.Outs {
			tree := slices.Clone(out.Tree)
			for j := range tree {
				if tree[j].Op == api.OpRatio {
					tree[j].Op = api.OpDiv
				}
			}
			if want := sample.Tell(tree, func(n api.Node) api.Told { return values[n.N] }); told[i] != want {
				t.Fatalf("%v of %v: %v, not %v", out, values, told[i], want)
			}
		}
	}
	if held < 6000 || held > runs-6000 {
		t.Errorf("%d of %d held", held, runs)
	}
}

// P20.1: plans that are not right.
func TestNoPlan(t *testing.T) {
	d := draw()
	wrong := 0
	for range 5000 {
		p := sample.CopyPlan(d.Plan())
		out := &p.Outs[d(len(p.Outs))]
		switch {
		case d(3) == 0:
			p.Accs = p.Accs[:d(len(p.Accs)+1)]
		case d(3) == 0 && len(p.Where) > 0:
			p.Where = d.Spoil(p.Where)
		default:
			out.Tree = d.Spoil(out.Tree)
		}
		err := plan.Right(p)
		x, got := Make(p)
		if err == nil {
			fails(t, p, got, 0)
			continue
		}
		wrong++
		fails(t, p, got, api.ErrPlan)
		if !reflect.DeepEqual(x, api.Program{}) {
			t.Fatalf("%v beside an error", x)
		}
	}
	if wrong < 1500 {
		t.Errorf("%d were wrong", wrong)
	}
	_, err := Make(api.Plan{})
	fails(t, "zero", err, api.ErrPlan)
}

// nodes is a plan's sum of so many nodes, in few levels.
func nodes(many int) []api.Node {
	switch {
	case many == 1:
		return []api.Node{sample.Acc(0)}
	case many%2 == 0:
		return sample.Neg(1, nodes(many-1)...)
	}
	half := many / 4 * 2
	return sample.Over(api.OpAdd, nodes(many-2-half), nodes(half+1))
}

// P20.1: the longest code, and one instruction more.
func TestLongest(t *testing.T) {
	// Each kid but the first is three instructions, and one more if it is an OpNe.
	kids := func(unlike int) []api.Node {
		l := slices.Repeat([][]api.Node{sample.Above(api.OpEq, sample.Tag("a"), sample.Text("x"))}, api.MaxCode/3)
		for i := range unlike {
			l[i*77] = sample.Above(api.OpNe, sample.Tag("a"), sample.Text("x"))
		}
		return sample.Over(api.OpOr, l...)
	}
	for over := range 2 {
		filter, output := planOf(t, "max(v)", ""), planOf(t, "max(v)", "")
		filter.Where = kids(2 + over)
		output.Outs[0].Tree = nodes(api.MaxCode - 2 + over)
		for _, p := range []api.Plan{filter, output} {
			fails(t, "right", plan.Right(p), 0)
			x, err := Make(p)
			if over == 1 {
				fails(t, "too long", err, api.ErrLong)
				if !reflect.DeepEqual(x, api.Program{}) {
					t.Error("something beside an error")
				}
				continue
			}
			fails(t, "longest", err, 0)
			fails(t, "longest", verify.Program(x), 0)
			if max(len(x.Filter), len(x.Output)) != api.MaxCode {
				t.Errorf("%d and %d instructions", len(x.Filter), len(x.Output))
			}
			if back, err := Back(x); err != nil || !plan.Same(back, p) {
				t.Errorf("another plan comes back: %v", err)
			}
		}
	}
}

// P3: what is handed in stays, and what is told lies by itself.
func TestMemory(t *testing.T) {
	d := draw()
	for range 1000 {
		p := d.Plan()
		in, kept := sample.CopyPlan(p), sample.CopyPlan(p)
		x := made(t, Make, in)
		apart(t, x)
		sample.SpoilProgram(x)
		if !reflect.DeepEqual(sample.SparePlan(in), sample.SparePlan(kept)) {
			t.Fatalf("%v, not %v", in, kept)
		}
		x = sample.CopyProgram(made(t, Make, in))
		same := sample.CopyProgram(x)
		back := made(t, Back, x)
		want := sample.CopyPlan(back)
		sample.SpoilPlan(back)
		if !reflect.DeepEqual(sample.SpareProgram(x), sample.SpareProgram(same)) {
			t.Fatalf("%v, not %v", x, same)
		}
		if back = made(t, Back, x); !samePlans(back, want) {
			t.Fatalf("%v, not %v", back, want)
		}
		for i := range back.Outs {
			_ = append(back.Outs[i].Tree, api.Node{S: "spoilt"})
			_ = append(back.Where, api.Node{S: "spoilt"})
		}
		if !samePlans(back, want) {
			t.Fatalf("%v, not %v", back, want)
		}
	}
}

// apart holds the lists of one program apart: what is laid behind one, or changed in it, changes none of the others.
func apart(t *testing.T, x api.Program) {
	t.Helper()
	kept := sample.CopyProgram(x)
	for i := range x.Lists {
		_ = append(x.Lists[i], "spoilt")
	}
	_, _, _, _ = append(x.Names, "spoilt"), append(x.Texts, "spoilt"), append(x.Aliases, "spoilt"), append(x.Groups, "spoilt")
	_, _ = append(x.Times, 99), append(x.Ints, 99)
	_, _ = append(x.Filter, api.Ins{Code: 99}), append(x.Output, api.Ins{Code: 99})
	if !samePrograms(x, kept) {
		t.Fatalf("%v, not %v", x, kept)
	}
}
