package vm

import (
	"math"
	"math/big"
	"math/rand"
	"slices"
	"strconv"
	"strings"
	"testing"

	"weir/api"
	"weir/code"
	"weir/expect"
	"weir/sample"
)

// fails holds an error against ErrFault at a place; none: there must be no error.
func fails(t *testing.T, what any, err error, pos int) {
	t.Helper()
	e := api.ErrFault
	if pos == none {
		e = 0
	}
	if wrong := expect.Wrong(err, e, pos, expect.None); wrong != "" {
		t.Errorf("%.2000v: %v: %s", what, err, wrong)
	}
}

const none = expect.None

// draw draws from a source with a fixed seed, so that each run draws the same.
func draw() sample.Draw { return rand.New(rand.NewSource(1970)).Intn }

func ins(c api.Code, operands ...int) api.Ins {
	operands = append(operands, 0, 0)
	return api.Ins{Code: c, A: operands[0], B: operands[1]}
}

func told(n int64) api.Told { return api.Told{Some: true, Value: api.Value{N: n}} }

var (
	over = api.Told{Some: true, Value: api.Value{Kind: api.Over}}
	void = api.Told{Some: true, Value: api.Value{Kind: api.Void}}
)

// base has something in each of its lists, and no code.
func base() api.Program {
	return api.Program{
		From: "cpu", Every: 10, Aliases: []string{"x", "y"},
		Accs:  []api.Acc{{Func: api.TotalOf, Field: "v"}, {Func: api.Count, Field: "v"}, {Func: api.Max, Field: "v"}, {Func: api.Count, Field: "w"}, {Func: api.TotalOf, Field: "w"}},
		Names: []string{"host", "zone", "nope"}, Texts: []string{"a", "", "b"}, Lists: [][]string{{"a", "b"}, {""}, {}},
		Times: []int64{5, -7}, Ints: []int64{2, 0, math.MaxInt64, math.MinInt64, -1},
	}
}

// of tells whether a number is one of so many.
func of(n, many int) bool { return 0 <= n && n < many }

// ran is how a run of a filter went: the place at which it went wrong, or none; else the rest.
type ran struct {
	wrong, steps int
	answer       bool
	trace        string
}

// filterRun runs a filter anew, by the chapter's words: its stack is a text of letters.
func filterRun(p api.Program, tags []api.Tag, t int64) ran {
	stack, trace := "", ""
	for at, steps := 0, 1; ; steps++ {
		if at == len(p.Filter) {
			return ran{wrong: at}
		}
		i, next := p.Filter[at], at+1
		var ok, ends bool
		if stack, next, ok = filterStep(p, at, stack, tags, t); !ok {
			return ran{wrong: at}
		}
		answer := i.Code == api.Accept && stack == "t"
		if i.Code == api.Accept {
			stack, ends = "", true
		}
		shown := stack
		if shown == "" {
			shown = "-"
		}
		words := []string{strconv.Itoa(at), code.Name(i.Code), strconv.Itoa(i.A), strconv.Itoa(i.B)}
		trace += strings.Join(append(words[:2+code.Uses(i.Code)], shown), " ") + "\n"
		if ends {
			return ran{none, steps, answer, trace}
		}
		at = next
	}
}

// filterStep is what an instruction leaves: the stack (of Accept as it found it), where it goes on, and whether all is well.
func filterStep(p api.Program, at int, stack string, tags []api.Tag, t int64) (behind string, next int, ok bool) {
	i, high := p.Filter[at], len(stack)
	tag := func(n int) string {
		for _, one := range tags {
			if one.Key == p.Names[n] {
				return one.Value
			}
		}
		return ""
	}
	push := func(truth bool) (string, int, bool) {
		return stack + map[bool]string{true: "t", false: "f"}[truth], at + 1, high < 200
	}
	no := func() (string, int, bool) { return "", 0, false }
	switch i.Code {
	case api.PushTrue, api.PushFalse:
		return push(i.Code == api.PushTrue)
	case api.PushTag:
		if !of(i.A, len(p.Names)) || !of(i.B, len(p.Texts)) {
			return no()
		}
		return push(tag(i.A) == p.Texts[i.B])
	case api.PushIn:
		if !of(i.A, len(p.Names)) || !of(i.B, len(p.Lists)) {
			return no()
		}
		return push(slices.Contains(p.Lists[i.B], tag(i.A)))
	case api.PushSame:
		if !of(i.A, len(p.Names)) || !of(i.B, len(p.Names)) {
			return no()
		}
		return push(tag(i.A) == tag(i.B))
	case api.PushTime:
		if !of(i.A, 6) || !of(i.B, len(p.Times)) {
			return no()
		}
		n := p.Times[i.B]
		return push([]bool{t == n, t != n, t < n, t <= n, t > n, t >= n}[i.A])
	case api.Not:
		if high < 1 {
			return no()
		}
		return stack[:high-1] + map[byte]string{'t': "f", 'f': "t"}[stack[high-1]], at + 1, true
	case api.And, api.Or:
		if high < 2 {
			return no()
		}
		with := map[api.Code]string{api.And: "f", api.Or: "t"}[i.Code]
		if !strings.Contains(stack[high-2:], with) {
			with = stack[high-1:]
		}
		return stack[:high-2] + with, at + 1, true
	case api.JumpFalse, api.JumpTrue:
		if high < 1 || i.A <= at || i.A > len(p.Filter) {
			return no()
		}
		if (stack[high-1] == 't') == (i.Code == api.JumpTrue) {
			return stack, i.A, true
		}
		return stack, at + 1, true
	case api.Pop:
		if high < 1 {
			return no()
		}
		return stack[:high-1], at + 1, true
	case api.Accept:
		return stack, at + 1, high == 1
	}
	return no()
}

// whole is a sum of 128 bits as a number without bounds.
func whole(s api.Sum) *big.Int {
	n := new(big.Int).Lsh(big.NewInt(s.Hi), 64)
	return n.Add(n, new(big.Int).SetUint64(s.Lo))
}

// slotTold is what a slot tells of its accumulator, told anew.
func slotTold(a api.Acc, s api.Slot) api.Told {
	switch {
	case !s.Some:
		return api.Told{}
	case a.Func == api.TotalOf:
		return sample.Whole(whole(s.Sum))
	}
	return told(s.N)
}

// ratioTold is what the sum of one slot by the number of another one is, told anew.
func ratioTold(a, b api.Slot) api.Told {
	if !a.Some || !b.Some {
		return api.Told{}
	}
	return sample.Whole(sample.Reckoned(api.OpDiv, whole(a.Sum), big.NewInt(b.N)))
}

// outputRun runs an output anew, by the chapter's words: what is told, how many were run, the place at which it went wrong, or none.
func outputRun(p api.Program, l []api.Slot) (items []api.Told, steps, wrong int) {
	ops := map[api.Code]api.Op{api.Add: api.OpAdd, api.Sub: api.OpSub, api.Mul: api.OpMul, api.Div: api.OpDiv, api.Mod: api.OpMod}
	emitted := map[int]api.Told{}
	var stack []api.Told
	slot := func(n int) bool { return of(n, len(p.Accs)) && n < len(l) }
	for at, i := range p.Output {
		high, ok := len(stack), false
		switch i.Code {
		case api.LoadAcc:
			if ok = slot(i.A) && high < 200; ok {
				stack = append(stack, slotTold(p.Accs[i.A], l[i.A]))
			}
		case api.LoadInt:
			if ok = of(i.A, len(p.Ints)) && high < 200; ok {
				stack = append(stack, told(p.Ints[i.A]))
			}
		case api.Ratio:
			ok = slot(i.A) && slot(i.B) && high < 200
			ok = ok && p.Accs[i.A].Func == api.TotalOf && p.Accs[i.B].Func == api.Count && p.Accs[i.A].Field == p.Accs[i.B].Field
			if ok {
				stack = append(stack, ratioTold(l[i.A], l[i.B]))
			}
		case api.Neg:
			if ok = high > 0; ok {
				stack[high-1] = sample.Operator(api.OpNeg, stack[high-1])
			}
		case api.Add, api.Sub, api.Mul, api.Div, api.Mod:
			if ok = high > 1; ok {
				stack = append(stack[:high-2], sample.Operator(ops[i.Code], stack[high-2], stack[high-1]))
			}
		case api.Emit:
			_, twice := emitted[i.A]
			if ok = high > 0 && of(i.A, len(p.Aliases)) && !twice; ok {
				emitted[i.A], stack = stack[high-1], stack[:high-1]
			}
		case api.Done:
			if high == 0 {
				for n := range p.Aliases {
					items = append(items, emitted[n])
				}
				return items, at + 1, none
			}
		}
		if !ok {
			return nil, 0, at
		}
	}
	return nil, 0, len(p.Output)
}

// held runs a program, and holds all that is told against what the chapter says. It answers whether filter and output went well.
func held(t *testing.T, p api.Program, tags []api.Tag, at int64, l []api.Slot) (filter, output bool) {
	t.Helper()
	want := filterRun(p, tags, at)
	answer, steps, err := Match(p, tags, at)
	if fails(t, p, err, want.wrong); answer != want.answer || steps != want.steps {
		t.Errorf("%v of %v at %d: %v behind %d, not %v", p, tags, at, answer, steps, want)
	}
	trace, err := Trace(p, tags, at)
	if fails(t, p, err, want.wrong); trace != want.trace {
		t.Errorf("%v of %v at %d: %q, not %q", p, tags, at, trace, want.trace)
	}
	items, run, wrong := outputRun(p, l)
	got, steps, err := Tell(p, l)
	if fails(t, p, err, wrong); !slices.Equal(got, items) || steps != run || wrong != none && got != nil {
		t.Errorf("%v of %v: %v behind %d, not %v behind %d", p, l, got, steps, items, run)
	}
	return want.wrong == none, wrong == none
}

// someSlot draws what an accumulator may tell, or not.
func someSlot(d sample.Draw) api.Slot {
	number := func() int64 {
		return sample.One(d, 0, 1, -1, int64(d(20)-10), d.Number(), math.MinInt64, math.MaxInt64)
	}
	sum := sample.One(d, api.Sum{}, api.Sum{Lo: uint64(d(100))}, api.Sum{Hi: -1, Lo: uint64(number())}, api.Sum{Lo: uint64(number())}, api.Sum{Hi: number(), Lo: uint64(number())})
	return api.Slot{Some: d(5) > 0, N: number(), Sum: sum}
}

func someSlots(d sample.Draw, many int) []api.Slot {
	return sample.Some(many, func() api.Slot { return someSlot(d) })
}

// someTags draws tags of a program's names and texts.
func someTags(d sample.Draw, p api.Program) (tags []api.Tag, at int64) {
	for _, name := range p.Names {
		if d(3) > 0 {
			texts := slices.Concat([]string{"", "a"}, p.Texts, slices.Concat(p.Lists...))
			tags = append(tags, api.Tag{Key: name, Value: sample.One(d, texts...)})
		}
	}
	times := append([]int64{0, d.Number()}, p.Times...)
	return tags, sample.One(d, times...) + int64(d(3)-1)
}
