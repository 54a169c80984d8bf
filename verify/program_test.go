package verify

import (
	"math"
	"reflect"
	"slices"
	"strconv"
	"strings"
	"testing"

	"weir/api"
	"weir/expect"
	"weir/fault"
	"weir/sample"
)

// base is a program that passes, with something in each of its parts.
func base() api.Program {
	return api.Program{
		From: "cpu", Into: "hourly", Every: 3600, Offset: 60, Groups: []string{"host", "zone"},
		Accs:    []api.Acc{{Func: api.TotalOf, Field: "v"}, {Func: api.Count, Field: "v"}, {Func: api.Count, Field: "w"}, {Func: api.Min, Field: "v"}},
		Aliases: []string{"m", "n"}, Names: []string{"host", "zone"}, Texts: []string{"a", ""}, Lists: [][]string{{"x", ""}, {"y"}},
		Times: []int64{5, math.MinInt64}, Ints: []int64{7, math.MinInt64},
		Filter: []api.Ins{{Code: api.PushTag, A: 1, B: 1}, {Code: api.Accept}},
		Output: []api.Ins{{Code: api.LoadAcc, A: 2}, {Code: api.Emit, A: 1}, {Code: api.Ratio, B: 1}, {Code: api.Emit}, {Code: api.Done}},
	}
}

// held holds all calls of a program against the chapter's word, and tells whether it passes.
func held(t *testing.T, what any, p api.Program) bool {
	t.Helper()
	e, pos := judge(p)
	is(t, what, p, e, pos)
	return e == 0
}

// is holds all calls of a program against an error and its place.
func is(t *testing.T, what any, p api.Program, e api.Errno, pos int) {
	t.Helper()
	heights, high := Heights(p)
	rises, rise := Rises(p)
	filter, output, bound := Bound(p)
	dead, never := Dead(p)
	for _, err := range []error{Program(p), high, rise, bound, never} {
		fails(t, what, err, e, pos)
	}
	if e != 0 {
		if len(heights) > 0 || len(rises) > 0 || filter != 0 || output != 0 || len(dead) > 0 {
			t.Errorf("%v: %v, %v, %d, %d, %v beside an error", what, heights, rises, filter, output, dead)
		}
		return
	}
	if len(heights) != len(p.Filter) || len(rises) != len(p.Output) || filter != len(p.Filter) || output != len(p.Output) {
		t.Errorf("%v: %v, %v, %d, %d", what, heights, rises, filter, output)
	}
}

// ins is an instruction with its operands.
func ins(c api.Code, operands ...int) api.Ins {
	operands = append(operands, 0, 0)
	return api.Ins{Code: c, A: operands[0], B: operands[1]}
}

// The chapter's examples.
func TestExamples(t *testing.T) {
	load, emit, done := ins(api.LoadAcc), ins(api.Emit), ins(api.Done)
	tag, accept := ins(api.PushTag), ins(api.Accept)
	for _, c := range []struct {
		filter, output []api.Ins
		e              api.Errno
		pos            int
	}{
		{[]api.Ins{tag, accept}, []api.Ins{load, emit, done}, 0, expect.None},
		{[]api.Ins{tag}, []api.Ins{load, emit, done}, api.ErrEnd, 1},
		{[]api.Ins{ins(api.And), accept}, []api.Ins{load, emit, done}, api.ErrStack, 0},
		{[]api.Ins{tag, ins(api.JumpFalse), accept}, []api.Ins{load, emit, done}, api.ErrJump, 1},
		{[]api.Ins{tag, accept}, []api.Ins{load, done}, api.ErrStack, 3},
	} {
		p := base()
		p.Aliases, p.Filter, p.Output = p.Aliases[:1], c.filter, c.output
		is(t, c, p, c.e, c.pos)
	}
	p := base()
	p.Filter = []api.Ins{ins(api.PushTrue), ins(api.JumpTrue, 4), ins(api.Pop), ins(api.PushFalse), accept}
	is(t, "the second", p, 0, expect.None)
	heights, _ := Heights(p)
	rises, _ := Rises(p)
	dead, _ := Dead(p)
	filter, output, _ := Bound(p)
	if !slices.Equal(heights, []int{0, 1, 1, 0, 1}) || !slices.Equal(rises, []int{0, 1, 0, 1, 0}) || !slices.Equal(dead, []int{2, 3}) || filter != 5 || output != 5 {
		t.Errorf("%v, %v, %v, %d, %d", heights, rises, dead, filter, output)
	}
}

// heads are changes of a program's head, of which some make it wrong.
func heads() map[string]func(p *api.Program) {
	changes := map[string]func(p *api.Program){"nothing": func(*api.Program) {}, "all": func(p *api.Program) { *p = api.Program{} }}
	for i, s := range []string{
		"", "time", "x", "Time", "a\n", "\xff", "\x7f", "\x00", "é", "a b", strings.Repeat("n", 64), strings.Repeat("n", 65), strings.Repeat("é", 32), strings.Repeat("é", 33),
		strings.Repeat("t", 256), strings.Repeat("t", 257), strings.Repeat("é", 128), strings.Repeat("é", 129),
	} {
		n := strconv.Itoa(i)
		changes["From "+n] = func(p *api.Program) { p.From = s }
		changes["Into "+n] = func(p *api.Program) { p.Into = s }
		changes["Groups "+n] = func(p *api.Program) { p.Groups[1] = s }
		changes["Field "+n] = func(p *api.Program) { p.Accs[3].Field = s }
		changes["Aliases "+n] = func(p *api.Program) { p.Aliases[1] = s }
		changes["Names "+n] = func(p *api.Program) { p.Names[1] = s }
		changes["Texts "+n] = func(p *api.Program) { p.Texts[1] = s }
		changes["Lists "+n] = func(p *api.Program) { p.Lists[0][1] = s }
	}
	for _, n := range []int64{math.MinInt64, -1, 0, 1, 60, 61, api.MaxEvery, api.MaxEvery + 1, math.MaxInt64} {
		s := strconv.FormatInt(n, 10)
		changes["Every "+s] = func(p *api.Program) { p.Every = n }
		changes["Offset "+s] = func(p *api.Program) { p.Offset = n }
		changes["Every, Offset "+s] = func(p *api.Program) { p.Every, p.Offset = n, n-1 }
		changes["Times "+s] = func(p *api.Program) { p.Times[0] = n }
		changes["Ints "+s] = func(p *api.Program) { p.Ints[0] = n }
	}
	for n := range 20 {
		s := strconv.Itoa(n)
		changes["groups "+s] = func(p *api.Program) { p.Groups = slices.Repeat([]string{"host"}, n) }
		changes["aliases "+s] = func(p *api.Program) {
			p.Aliases, p.Output = nil, nil
			for i := range n {
				p.Aliases, p.Output = append(p.Aliases, "o"+strconv.Itoa(i)), append(p.Output, ins(api.LoadInt), ins(api.Emit, i))
			}
			p.Output = append(p.Output, ins(api.Done))
		}
		changes["Func "+s] = func(p *api.Program) { p.Accs[3].Func = api.Func(n) }
	}
	for _, n := range []int{0, 1, 2, 63, 64, 65, 66} {
		changes["a list of "+strconv.Itoa(n)] = func(p *api.Program) { p.Lists[1] = slices.Repeat([]string{"x"}, n) }
	}
	changes["the Func of no function"] = func(p *api.Program) { p.Accs[3].Func = 255 }
	changes["one name twice"] = func(p *api.Program) { p.Aliases[1] = "m" }
	changes["no lists"] = func(p *api.Program) { p.Lists, p.Times, p.Ints, p.Groups = nil, nil, nil, nil }
	changes["a list that is none"] = func(p *api.Program) { p.Lists = append(p.Lists, nil) }
	changes["many of all"] = func(p *api.Program) {
		p.Accs, p.Names, p.Texts, p.Lists = slices.Repeat(p.Accs, 99), slices.Repeat(p.Names, 99), slices.Repeat(p.Texts, 99), slices.Repeat(p.Lists, 99)
	}
	return changes
}

// P19.1: the head, part by part: it is told ahead of all else, without a place.
func TestHead(t *testing.T) {
	right, changes := 0, heads()
	for name, change := range changes {
		p := base()
		change(&p)
		if held(t, name, p) {
			right++
			continue
		}
		p.Filter = []api.Ins{{Code: 99}}
		is(t, name+", and wrong code", p, api.ErrOperand, expect.None)
	}
	if right < 60 || len(changes)-right < 60 {
		t.Errorf("%d of %d were right", right, len(changes))
	}
}

// P19.1: how long the code may be.
func TestLongest(t *testing.T) {
	for over := range 2 {
		want := []api.Errno{0, api.ErrOperand}[over]
		p := base()
		p.Filter = append(slices.Repeat([]api.Ins{ins(api.PushTrue), ins(api.Pop)}, api.MaxCode/2-1), ins(api.PushTrue), ins(api.Accept))
		p.Filter = slices.Insert(p.Filter, 0, slices.Repeat([]api.Ins{ins(api.PushTrue)}, over)...)
		is(t, "filter", p, want, expect.None)
		p = base()
		p.Output = slices.Insert(p.Output, 1, slices.Repeat([]api.Ins{ins(api.Neg)}, api.MaxCode-len(p.Output)+over)...)
		is(t, "output", p, want, expect.None)
	}
	// Jumps from everywhere to everywhere, with the highest stack.
	p := base()
	p.Filter = slices.Repeat([]api.Ins{ins(api.PushTag)}, api.MaxStack)
	for len(p.Filter) < api.MaxCode-api.MaxStack {
		p.Filter = append(p.Filter, ins(api.JumpFalse, len(p.Filter)+1+len(p.Filter)*7919%(api.MaxCode-api.MaxStack-len(p.Filter))))
	}
	p.Filter = append(append(p.Filter, slices.Repeat([]api.Ins{ins(api.Or)}, api.MaxStack-1)...), ins(api.Accept))
	is(t, "jumps", p, 0, expect.None)
	if dead, _ := Dead(p); len(p.Filter) != api.MaxCode || len(dead) > 0 {
		t.Errorf("%d instructions, %d of them dead", len(p.Filter), len(dead))
	}
}

// P19.1: each code in each machine, and its operands at their edges.
func TestOperands(t *testing.T) {
	told := map[api.Errno]int{}
	numbers := []int{math.MinInt, -1, 0, 1, 2, 3, 4, 5, 6, 7, 8, math.MaxInt}
	for c := range 256 {
		for _, a := range numbers {
			for _, b := range numbers {
				one := ins(api.Code(c), a, b)
				for _, machine := range []string{"filter", "output"} {
					p := base()
					if row := filters[one.Code]; machine == "filter" {
						p.Filter = append(slices.Repeat([]api.Ins{ins(api.PushTrue)}, row.takes), one)
						p.Filter = append(p.Filter, slices.Repeat([]api.Ins{ins(api.PushTrue)}, 1-row.puts)...)
						p.Filter = append(p.Filter, ins(api.Accept))
					} else {
						row := outputs[one.Code]
						p.Output = slices.Concat(slices.Repeat([]api.Ins{ins(api.LoadAcc)}, row.takes), []api.Ins{one}, slices.Repeat([]api.Ins{ins(api.LoadInt)}, 1-row.puts), p.Output[1:])
					}
					e, pos := judge(p)
					is(t, one, p, e, pos)
					told[e]++
				}
			}
		}
	}
	for _, e := range []api.Errno{0, api.ErrCode, api.ErrOperand, api.ErrJump, api.ErrEnd} {
		if told[e] == 0 {
			t.Errorf("errno %d was never told", e)
		}
	}
}

// P19.1: what is told of stacks.
func TestStack(t *testing.T) {
	push, or, accept := ins(api.PushTrue), ins(api.Or), ins(api.Accept)
	load, add, done := ins(api.LoadInt), ins(api.Add), ins(api.Done)
	full := slices.Repeat([]api.Ins{push}, api.MaxStack)
	empty := append(slices.Repeat([]api.Ins{or}, api.MaxStack-1), accept)
	for name, c := range map[string]struct {
		filter []api.Ins
		pos    int
	}{
		"the highest":           {slices.Concat(full, empty), expect.None},
		"too high":              {slices.Concat(full, []api.Ins{push, or}, empty), api.MaxStack},
		"nothing to turn":       {[]api.Ins{ins(api.Not), accept}, 0},
		"nothing to pop":        {[]api.Ins{push, ins(api.Pop), ins(api.Pop), push, accept}, 2},
		"nothing to jump by":    {[]api.Ins{ins(api.JumpTrue, 1), push, accept}, 0},
		"one for two":           {[]api.Ins{push, or, accept}, 1},
		"nothing to accept":     {[]api.Ins{accept}, 0},
		"two to accept":         {[]api.Ins{push, push, accept}, 2},
		"a jump over a push":    {[]api.Ins{push, ins(api.JumpTrue, 3), push, accept}, 3},
		"a jump over a pop":     {[]api.Ins{push, ins(api.JumpTrue, 3), ins(api.Pop), push, accept}, 3},
		"over both":             {[]api.Ins{push, ins(api.JumpTrue, 4), ins(api.Pop), push, accept}, expect.None},
		"two unlike jumps":      {[]api.Ins{push, ins(api.JumpTrue, 5), push, ins(api.JumpTrue, 5), or, accept}, 5},
		"unlike, then too few":  {[]api.Ins{push, ins(api.JumpTrue, 3), push, or, or, accept}, 3},
		"too few, then unlike":  {[]api.Ins{push, ins(api.JumpTrue, 4), or, push, accept}, 2},
		"by a jump never done":  {[]api.Ins{ins(api.PushFalse), ins(api.JumpTrue, 3), push, or, accept}, 3},
		"to the next one":       {[]api.Ins{push, ins(api.JumpTrue, 2), accept}, expect.None},
		"unlike at first":       {[]api.Ins{push, push, ins(api.JumpTrue, 5), or, push, or, accept}, expect.None},
		"unlike by much":        {[]api.Ins{push, push, push, ins(api.JumpTrue, 5), or, or, accept}, 5},
		"a jump to the end":     {[]api.Ins{push, push, ins(api.JumpTrue, 4), or, accept}, 4},
		"two ways, then a rest": {[]api.Ins{push, ins(api.JumpFalse, 3), ins(api.Not), push, accept}, 4},
	} {
		p := base()
		p.Filter = c.filter
		e := api.ErrStack
		if c.pos == expect.None {
			e = 0
		}
		is(t, name, p, e, c.pos)
		held(t, name, p)
	}
	one, many := []api.Ins{ins(api.Emit), done}, slices.Repeat([]api.Ins{load}, api.MaxStack)
	for name, c := range map[string]struct {
		output []api.Ins
		e      api.Errno
		pos    int
	}{
		"the highest":      {slices.Concat(many, slices.Repeat([]api.Ins{add}, api.MaxStack-1), one), 0, expect.None},
		"too high":         {slices.Concat(many, []api.Ins{load, add}, slices.Repeat([]api.Ins{add}, api.MaxStack-1), one), api.ErrStack, 2 + api.MaxStack},
		"nothing to turn":  {slices.Concat([]api.Ins{ins(api.Neg)}, one), api.ErrStack, 2},
		"one for two":      {slices.Concat([]api.Ins{load, add}, one), api.ErrStack, 3},
		"nothing to emit":  {one, api.ErrStack, 2},
		"something left":   {slices.Concat([]api.Ins{load, load}, one), api.ErrStack, 5},
		"nothing":          {nil, api.ErrEnd, 2},
		"nothing emitted":  {[]api.Ins{done}, api.ErrEnd, expect.None},
		"emitted twice":    {slices.Concat([]api.Ins{load, ins(api.Emit), load}, one), api.ErrEnd, expect.None},
		"emitted, no end":  {[]api.Ins{load, ins(api.Emit)}, api.ErrEnd, 4},
		"an end too early": {slices.Concat([]api.Ins{done, load}, one), api.ErrEnd, 2},
		"two ends":         {slices.Concat([]api.Ins{load}, one, []api.Ins{done}), api.ErrEnd, 4},
	} {
		p := base()
		p.Aliases, p.Output = p.Aliases[:1], c.output
		is(t, name, p, c.e, c.pos)
		held(t, name, p)
	}
}

// P19.1: of two errors the one that is named first.
func TestFirst(t *testing.T) {
	flaws := []struct {
		name string
		e    api.Errno
		pos  int
		make func(p *api.Program)
	}{
		{"head", api.ErrOperand, expect.None, func(p *api.Program) { p.From = "" }},
		{"operand of the filter", api.ErrOperand, 0, func(p *api.Program) { p.Filter[0].A = 9 }},
		{"code of the filter", api.ErrCode, 3, func(p *api.Program) { p.Filter[3].Code = api.Add }},
		{"jump of the filter", api.ErrJump, 4, func(p *api.Program) { p.Filter[4].A = 4 }},
		{"early end of the filter", api.ErrEnd, 5, func(p *api.Program) { p.Filter[5] = ins(api.Accept) }},
		{"end of the filter", api.ErrEnd, 7, func(p *api.Program) { p.Filter[6].Code = api.Not }},
		{"operand of the output", api.ErrOperand, 7, func(p *api.Program) { p.Output[0].A = 9 }},
		{"code of the output", api.ErrCode, 8, func(p *api.Program) { p.Output[1].Code = api.Not }},
		{"early end of the output", api.ErrEnd, 9, func(p *api.Program) { p.Output[2] = ins(api.Done) }},
		{"end of the output", api.ErrEnd, 12, func(p *api.Program) { p.Output[4].Code = api.Neg }},
		{"stack of the filter", api.ErrStack, 2, func(p *api.Program) { p.Filter[2].Code = api.And }},
		{"stack of the output", api.ErrStack, 10, func(p *api.Program) { p.Output[3].Code = api.Add; p.Output[3].A = 0 }},
		{"not emitted", api.ErrEnd, expect.None, func(p *api.Program) { p.Aliases = []string{"m", "n", "more"} }},
	}
	for i, a := range flaws {
		for _, b := range flaws[i:] {
			p := base()
			p.Filter = []api.Ins{ins(api.PushTag), ins(api.JumpFalse, 5), ins(api.Not), ins(api.Not), ins(api.JumpTrue, 5), ins(api.Not), ins(api.Accept)}
			is(t, "as it was", p, 0, expect.None)
			b.make(&p)
			a.make(&p)
			is(t, a.name+", "+b.name, p, a.e, a.pos)
		}
	}
	// Of one instruction, too.
	p := base()
	p.Filter[0] = ins(api.LoadAcc, 99)
	is(t, "code, operand", p, api.ErrCode, 0)
	p.Filter = []api.Ins{ins(api.PushTrue), ins(api.JumpFalse, 0, 1), ins(api.Accept)}
	is(t, "operand, jump", p, api.ErrOperand, 1)
	p.Filter = []api.Ins{ins(api.PushTrue), ins(api.Accept, 1), ins(api.Accept)}
	is(t, "operand, end", p, api.ErrOperand, 1)
}

// P19.1: any programs, most of which do not pass.
func TestAnyPrograms(t *testing.T) {
	d := draw()
	told := map[api.Errno]int{}
	for i := range 60000 {
		p := d.Program(1 + i%13)
		is(t, p, p, 0, expect.None)
		p = d.Broken(p)
		e, pos := judge(p)
		is(t, p, p, e, pos)
		told[e]++
		if t.Failed() {
			t.FailNow()
		}
	}
	for _, e := range []api.Errno{0, api.ErrCode, api.ErrOperand, api.ErrJump, api.ErrEnd, api.ErrStack} {
		if told[e] < 1000 {
			t.Errorf("errno %d was told %d times", e, told[e])
		}
	}
}

// P1: a program that is zero in all.
func TestZero(t *testing.T) {
	is(t, "zero", api.Program{}, api.ErrOperand, expect.None)
	p := base()
	p.Filter, p.Output = nil, nil
	is(t, "no code", p, api.ErrEnd, 0)
}

// P19.4: what else stands in the lists, and behind them, plays no part.
func TestMore(t *testing.T) {
	d := draw()
	for range 3000 {
		p := sample.CopyProgram(d.Program(1 + d(12)))
		more := p
		more.Names, more.Texts = slices.Concat(p.Names, []string{"more"}), slices.Concat(p.Texts, []string{"more", ""})
		more.Lists, more.Times, more.Ints = slices.Concat(p.Lists, [][]string{{""}}), slices.Concat(p.Times, []int64{1, 2}), slices.Concat(p.Ints, []int64{3})
		more.Accs = slices.Concat(p.Accs, []api.Acc{{Func: api.Last, Field: "more"}})
		for _, one := range []api.Program{p, more} {
			is(t, one, one, 0, expect.None)
		}
		for name, call := range map[string]func(p api.Program) ([]int, error){"Heights": Heights, "Rises": Rises, "Dead": Dead} {
			a, _ := call(p)
			b, _ := call(more)
			if !slices.Equal(a, b) {
				t.Fatalf("%s: %v, not %v", name, b, a)
			}
		}
	}
}

// P3: what is handed in stays, and what is told lies by itself.
func TestMemory(t *testing.T) {
	d := draw()
	for range 1000 {
		p := d.Program(1 + d(12))
		if d(2) == 0 {
			p = d.Broken(p)
		}
		in, kept := sample.CopyProgram(p), sample.CopyProgram(p)
		for _, call := range []func(p api.Program) ([]int, error){Heights, Rises, Dead} {
			first, err := call(in)
			want := slices.Clone(first)
			sample.Fill(first, 99)
			second, again := call(in)
			if !slices.Equal(second, want) || fault.Code(err) != fault.Code(again) {
				t.Fatalf("%v, not %v", second, want)
			}
		}
		if !reflect.DeepEqual(sample.SpareProgram(in), sample.SpareProgram(kept)) {
			t.Fatalf("%v, not %v", in, kept)
		}
	}
}
