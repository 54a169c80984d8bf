package gen

import (
	"math"
	"reflect"
	"slices"
	"strings"
	"testing"

	"weir/api"
	"weir/code"
	"weir/plan"
	"weir/sample"
	"weir/verify"
)

// refused holds Back of a program that is made of no plan.
func refused(t *testing.T, what any, x api.Program) {
	t.Helper()
	p, err := Back(x)
	fails(t, what, err, api.ErrPlan)
	if !reflect.DeepEqual(p, api.Plan{}) {
		t.Errorf("%.300v: %.300v beside an error", what, p)
	}
}

// small is a program with this filter, and with what the filter names in its lists.
func small(filter []api.Ins) api.Program {
	x := api.Program{From: "cpu", Every: 1, Accs: []api.Acc{{Func: api.Max, Field: "v"}}, Aliases: []string{"m"}, Filter: filter,
		Output: []api.Ins{{Code: api.LoadAcc}, {Code: api.Emit}, {Code: api.Done}}}
	if slices.Contains(filter, api.Ins{Code: api.PushTag}) {
		x.Names, x.Texts = []string{"a"}, []string{"x"}
	}
	if slices.Contains(filter, api.Ins{Code: api.PushTime}) {
		x.Times = []int64{5}
	}
	return x
}

// conditions are all that have code of so many instructions, of two leaves and one that is certain.
func conditions(many int, known map[int][][]api.Node) [][]api.Node {
	if l, there := known[many]; there || many < 1 {
		return l
	}
	var l [][]api.Node
	if many == 1 {
		clock := sample.Above(api.OpEq, sample.Node(api.OpClock, 0), sample.Time(5))
		l = append(l, sample.Above(api.OpEq, sample.Tag("a"), sample.Text("x")), clock, []api.Node{sample.Node(api.OpTrue, 0)})
	}
	for _, kid := range conditions(many-1, known) {
		l = append(l, sample.Over(api.OpNot, kid))
	}
	// rows are lists of kids that have so much code, with two instructions ahead of each but the first.
	var rows func(left int) [][][]api.Node
	rows = func(left int) (all [][][]api.Node) {
		for first := 1; first <= left; first++ {
			for _, kid := range conditions(first, known) {
				if first == left {
					all = append(all, [][]api.Node{kid})
				}
				for _, rest := range rows(left - first - 2) {
					all = append(all, slices.Concat([][]api.Node{kid}, rest))
				}
			}
		}
		return all
	}
	for first := 1; first <= many-3; first++ {
		for _, kid := range conditions(first, known) {
			for _, rest := range rows(many - first - 2) {
				kids := slices.Concat([][]api.Node{kid}, rest)
				l = append(l, sample.Over(api.OpAnd, kids...), sample.Over(api.OpOr, kids...))
			}
		}
	}
	known[many] = l
	return l
}

// effect is what an instruction takes off the stack, and puts on it.
func effect(c api.Code) (takes, puts int) {
	switch c {
	case api.Not, api.JumpFalse, api.JumpTrue, api.Neg:
		return 1, 1
	case api.And, api.Sub:
		return 2, 1
	case api.Pop, api.Emit:
		return 1, 0
	}
	return 0, 1
}

// each goes through all code of so many instructions of some, of which each finds on the stack what it needs, ahead of an end.
// A jump may go to each one that stands behind it.
func each(many int, some []api.Ins, end api.Code, see func(l []api.Ins)) {
	ahead := 0
	if end == api.Accept {
		ahead = 1
	}
	var l []api.Ins
	var next func(height int)
	next = func(height int) {
		if len(l) == many-1 {
			if height == ahead {
				see(append(slices.Clone(l), api.Ins{Code: end}))
			}
			return
		}
		for _, i := range some {
			takes, puts := effect(i.Code)
			if height < takes || height-takes+puts > 3 {
				continue
			}
			from, to := i.A, i.A
			if i.Code == api.JumpFalse || i.Code == api.JumpTrue {
				from, to = len(l)+1, many-1
			}
			for i.A = from; i.A <= to; i.A++ {
				l = append(l, i)
				next(height - takes + puts)
				l = l[:len(l)-1]
			}
		}
	}
	next(0)
}

// P20.1: of all short filters just those are read that are made of a condition.
func TestAllFilters(t *testing.T) {
	known := map[int][][]api.Node{}
	all := []api.Ins{{Code: api.PushTag}, {Code: api.Not}, {Code: api.JumpFalse}, {Code: api.JumpTrue}, {Code: api.Pop}, {Code: api.PushTime}, {Code: api.PushTrue}, {Code: api.And}}
	for many := 1; many <= 8; many++ {
		if many == 8 {
			all = all[:5]
		}
		images := map[string]int{}
		for _, where := range conditions(many-1, known) {
			x := made(t, Make, api.Plan{From: "cpu", Every: 1, Where: where, Accs: []api.Acc{{Func: api.Max, Field: "v"}}, Outs: []api.Out{{Alias: "m", Tree: []api.Node{sample.Acc(0)}}}})
			images[made(t, code.List, x)]++
		}
		told := 0
		each(many, all, api.Accept, func(filter []api.Ins) { told += judged(t, small(filter), images) })
		if want := []int{0, 0, 3, 3, 3, 21, 57, 111, 29}[many]; told != want {
			t.Errorf("%d of %d instructions were told, not %d", told, many, want)
		}
	}
}

// judged holds Back of a program against all that are made of plans, by their listings, and counts what is told.
func judged(t *testing.T, x api.Program, images map[string]int) int {
	t.Helper()
	if images[made(t, code.List, x)] == 0 {
		refused(t, x, x)
		return 0
	}
	if back := made(t, Back, x); !samePrograms(made(t, Make, back), x) {
		t.Errorf("%v: %v", x, back)
	}
	if t.Failed() {
		t.FailNow()
	}
	return 1
}

// sums are all that have code of so many instructions.
func sums(many int) (l [][]api.Node) {
	if many == 1 {
		return [][]api.Node{{sample.Acc(0)}, {sample.Int(7)}, sample.Above(api.OpRatio, sample.Acc(0), sample.Acc(1))}
	}
	if many < 1 {
		return nil
	}
	for _, kid := range sums(many - 1) {
		l = append(l, sample.Neg(1, kid...))
	}
	for first := 1; first < many-1; first++ {
		for _, a := range sums(first) {
			for _, b := range sums(many - 1 - first) {
				l = append(l, sample.Over(api.OpSub, a, b))
			}
		}
	}
	return l
}

// P20.1: of all short outputs just those are read that are made of items.
func TestAllOutputs(t *testing.T) {
	all := []api.Ins{{Code: api.LoadAcc}, {Code: api.LoadInt}, {Code: api.Ratio, B: 1}, {Code: api.Neg}, {Code: api.Sub}, {Code: api.Emit}, {Code: api.Emit, A: 1}}
	accs := []api.Acc{{Func: api.TotalOf, Field: "v"}, {Func: api.Count, Field: "v"}}
	total := 0
	for many := 1; many <= 8; many++ {
		images := map[string]int{}
		image := func(trees ...[]api.Node) {
			p := api.Plan{From: "cpu", Every: 1, Accs: accs}
			for i, tree := range trees {
				p.Outs = append(p.Outs, api.Out{Alias: []string{"m", "n"}[i], Tree: tree})
			}
			images[made(t, code.List, made(t, Make, p))]++
		}
		for _, a := range sums(many - 2) {
			image(a)
		}
		for first := 1; first < many-3; first++ {
			for _, a := range sums(first) {
				for _, b := range sums(many - 3 - first) {
					image(a, b)
				}
			}
		}
		told := 0
		each(many, all, api.Done, func(output []api.Ins) {
			x := api.Program{From: "cpu", Every: 1, Accs: accs, Aliases: []string{"m"}, Filter: []api.Ins{{Code: api.PushTrue}, {Code: api.Accept}}, Output: output}
			if slices.Contains(output, api.Ins{Code: api.Emit, A: 1}) {
				x.Aliases = []string{"m", "n"}
			}
			if slices.Contains(output, api.Ins{Code: api.LoadInt}) {
				x.Ints = []int64{7}
			}
			told += judged(t, x, images)
		})
		if told != len(images) {
			t.Errorf("%d of %d instructions were told, not %d", told, many, len(images))
		}
		total += told
	}
	if total < 400 {
		t.Errorf("%d were told in all", total)
	}
}

// P20.1: programs that pass, but that are made of no plan.
func TestNoMake(t *testing.T) {
	p := planOf(t, "max(v) - 1 + 2", "host = 'a' AND zone = 'b' AND host IN ('x', 'y') AND zone IN ('y') AND time > 1 AND time < 2 AND host = zone")
	for name, change := range map[string]func(x *api.Program){
		"a name more":       func(x *api.Program) { x.Names = append(x.Names, "more") },
		"a text more":       func(x *api.Program) { x.Texts = append(x.Texts, "more") },
		"a list more":       func(x *api.Program) { x.Lists = append(x.Lists, []string{"more"}) },
		"a time more":       func(x *api.Program) { x.Times = append(x.Times, 77) },
		"an int more":       func(x *api.Program) { x.Ints = append(x.Ints, 77) },
		"one name twice":    func(x *api.Program) { x.Names[1] = x.Names[0] },
		"one text twice":    func(x *api.Program) { x.Texts[1] = x.Texts[0] },
		"one list twice":    func(x *api.Program) { x.Lists[1] = slices.Clone(x.Lists[0]) },
		"one time twice":    func(x *api.Program) { x.Times[1] = x.Times[0] },
		"one int twice":     func(x *api.Program) { x.Ints[1] = x.Ints[0] },
		"the least time":    func(x *api.Program) { x.Times[1] = math.MinInt64 },
		"the least int":     func(x *api.Program) { x.Ints[1] = math.MinInt64 },
		"names in disorder": func(x *api.Program) { swapped(x, api.PushTag, true, x.Names) },
		"texts in disorder": func(x *api.Program) { swapped(x, api.PushTag, false, x.Texts) },
		"lists in disorder": func(x *api.Program) { swapped(x, api.PushIn, false, x.Lists) },
		"times in disorder": func(x *api.Program) { swapped(x, api.PushTime, false, x.Times) },
		"ints in disorder":  func(x *api.Program) { swapped(x, api.LoadInt, true, x.Ints) },
		"an and": func(x *api.Program) {
			x.Filter = insert(x.Filter, -1, api.Ins{Code: api.PushTrue}, api.Ins{Code: api.And})
		},
		"an or": func(x *api.Program) {
			x.Filter = insert(x.Filter, -1, api.Ins{Code: api.PushTrue}, api.Ins{Code: api.Or})
		},
		"a push and a pop": func(x *api.Program) {
			x.Filter = insert(x.Filter, -1, api.Ins{Code: api.PushTrue}, api.Ins{Code: api.Pop})
		},
		"a jump to the next":   func(x *api.Program) { x.Filter = insert(x.Filter, -1, api.Ins{Code: api.JumpTrue, A: len(x.Filter)}) },
		"a jump elsewhere":     func(x *api.Program) { x.Filter[1].A -= 3 },
		"another kind of jump": func(x *api.Program) { x.Filter[4].Code, x.Filter[4].A = api.JumpTrue, 10 },
		"an emit in disorder": func(x *api.Program) {
			x.Aliases = append(x.Aliases, "n")
			x.Output = insert(x.Output, 0, api.Ins{Code: api.LoadAcc}, api.Ins{Code: api.Emit, A: 1})
		},
	} {
		x := made(t, Make, p)
		made(t, Back, x)
		change(&x)
		fails(t, name, verify.Program(x), 0)
		refused(t, name, x)
	}
	refused(t, "zero", api.Program{})
}

// insert lays instructions at a place, or ahead of the end.
func insert(l []api.Ins, at int, some ...api.Ins) []api.Ins {
	if at < 0 {
		at += len(l)
	}
	return slices.Insert(slices.Clone(l), at, some...)
}

// swapped turns the first two things of a list about, and what names them, so that the code says the same.
func swapped[T any](x *api.Program, c api.Code, first bool, l []T) {
	l[0], l[1] = l[1], l[0]
	turn := func(n int) int { return []int{1, 0}[n] }
	for _, part := range [][]api.Ins{x.Filter, x.Output} {
		for i := range part {
			one := &part[i]
			switch names := []api.Code{api.PushTag, api.PushIn, api.PushSame}; {
			case c == api.PushTag && first && slices.Contains(names, one.Code):
				one.A = turn(one.A)
				if one.Code == api.PushSame {
					one.B = turn(one.B)
				}
			case one.Code != c:
			case first:
				one.A = turn(one.A)
			default:
				one.B = turn(one.B)
			}
		}
	}
}

// P20.1: programs of which one thing was changed: what is told is made again.
func TestChanged(t *testing.T) {
	d := draw()
	told, no := 0, 0
	for range 30000 {
		x := made(t, Make, d.Plan())
		l := sample.One(d, x.Filter, x.Filter, x.Output)
		i := &l[d(len(l))]
		switch d(3) {
		case 0:
			i.Code += sample.One[api.Code](d, 1, 255)
		case 1:
			i.A += sample.One(d, 1, -1, 3, -3)
		case 2:
			i.B += sample.One(d, 1, -1)
		}
		back, err := Back(x)
		if err != nil {
			refused(t, x, x)
			no++
			continue
		}
		told++
		fails(t, x, plan.Right(back), 0)
		if !samePrograms(made(t, Make, back), x) {
			t.Fatalf("%v: %v", x, back)
		}
	}
	if told < 1000 || no < 10000 {
		t.Errorf("%d were told, %d were not", told, no)
	}
}

// P20.1: the deepest trees, and a level more.
func TestDeepest(t *testing.T) {
	base := planOf(t, "max(v)", "time > 1")
	for over := range 2 {
		filter, output := made(t, Make, base), made(t, Make, base)
		// A comparison has two levels.
		filter.Filter = insert(filter.Filter, 1, slices.Repeat([]api.Ins{{Code: api.Not}}, api.MaxDeep-2+over)...)
		output.Output = insert(output.Output, 1, slices.Repeat([]api.Ins{{Code: api.Neg}}, api.MaxDeep+over)...)
		for _, x := range []api.Program{filter, output} {
			fails(t, x, verify.Program(x), 0)
			if over == 1 {
				refused(t, x, x)
			} else if back := made(t, Back, x); !samePrograms(made(t, Make, back), x) {
				t.Errorf("%v: %v", x, back)
			}
		}
	}
}

// P1: code as long as may be, in which all stands under all, is refused, and soon.
func TestEndless(t *testing.T) {
	ask, not, pop := api.Ins{Code: api.PushTag}, api.Ins{Code: api.Not}, api.Ins{Code: api.Pop}
	const most = api.MaxCode - 2
	jumps := map[string]func(at int) []api.Ins{
		"not":             func(at int) []api.Ins { return []api.Ins{not} },
		"to the next one": func(at int) []api.Ins { return []api.Ins{{Code: api.JumpFalse, A: at + 1}} },
		"to the next, by turns": func(at int) []api.Ins {
			return []api.Ins{{Code: api.JumpFalse, A: at + 1}, {Code: api.JumpTrue, A: at + 2}}
		},
		"to the end, by turns": func(at int) []api.Ins {
			return []api.Ins{{Code: api.JumpFalse, A: most + 1}, pop, ask, {Code: api.JumpTrue, A: most + 1}, pop, ask}
		},
		"one behind the other": func(at int) []api.Ins { return []api.Ins{{Code: api.JumpFalse, A: at + 3}, pop, ask} },
	}
	for name, some := range jumps {
		filter := []api.Ins{ask}
		for len(filter) < most-6 {
			filter = append(filter, some(len(filter))...)
		}
		for len(filter) <= most {
			filter = append(filter, not)
		}
		x := small(append(filter, api.Ins{Code: api.Accept}))
		fails(t, name, verify.Program(x), 0)
		refused(t, name, x)
	}
	x := small([]api.Ins{{Code: api.PushTrue}, {Code: api.Accept}})
	x.Output = insert(x.Output, 1, slices.Repeat([]api.Ins{{Code: api.Neg}}, api.MaxCode-3)...)
	fails(t, "neg", verify.Program(x), 0)
	refused(t, "neg", x)
}

// P20.1: the longest lists, as often as may be.
func TestLongLists(t *testing.T) {
	texts := slices.Repeat([]api.Node{sample.Text(strings.Repeat("t", api.MaxText))}, api.MaxIn)
	in := sample.Above(api.OpIn, append([]api.Node{sample.Tag("a")}, texts...)...)
	p := planOf(t, "max(v)", "")
	p.Where = sample.Over(api.OpAnd, slices.Repeat([][]api.Node{in}, api.MaxCode/3)...)
	x := made(t, Make, p)
	if len(x.Lists) != 1 || len(x.Lists[0]) != api.MaxIn || len(x.Filter) != api.MaxCode-2 {
		t.Fatalf("%d lists, %d instructions", len(x.Lists), len(x.Filter))
	}
	if back := made(t, Back, x); !plan.Same(back, p) {
		t.Error("another plan comes back")
	}
}
