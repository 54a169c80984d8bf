package verify

import (
	"maps"
	"math"
	"math/rand"
	"slices"
	"strconv"
	"strings"
	"testing"

	"weir/api"
	"weir/code"
	"weir/expect"
	"weir/sample"
)

// fails holds an error without an index against a number and a place.
func fails(t *testing.T, what any, err error, e api.Errno, pos int) {
	t.Helper()
	if wrong := expect.Wrong(err, e, pos, expect.None); wrong != "" {
		t.Errorf("%.2000v: %v: %s", what, err, wrong)
	}
}

// draw draws from a source with a fixed seed, so that each run draws the same.
func draw() sample.Draw { return rand.New(rand.NewSource(1970)).Intn }

// tables are the chapter's, one for each machine.
var tables = []string{`
PushTrue, PushFalse | 0 | 1 | none
PushTag | 0 | 1 | A of Names, B of Texts
PushIn | 0 | 1 | A of Names, B of Lists
PushSame | 0 | 1 | A, B of Names
PushTime | 0 | 1 | A from 0 to 5, B of Times
Not | 1 | 1 | none
And, Or | 2 | 1 | none
JumpFalse, JumpTrue | 1 | 1 | A: a jump
Pop | 1 | 0 | none
Accept | 1 | 0 | none; the end
`, `
LoadAcc | 0 | 1 | A of Accs
LoadInt | 0 | 1 | A of Ints
Ratio | 0 | 1 | A of Accs, a TotalOf; B of Accs, a Count of the same field
Neg | 1 | 1 | none
Add, Sub, Mul, Div, Mod | 2 | 1 | none
Emit | 1 | 0 | A of Aliases
Done | 0 | 0 | none; the end
`}

// told is what a table tells of an instruction.
type told struct {
	takes, puts int
	needs       string
}

// table is that of a machine, by instructions.
type table map[api.Code]told

func tableOf(machine int) table {
	all := table{}
	for _, line := range strings.Split(strings.TrimSpace(tables[machine]), "\n") {
		parts := strings.Split(line, " | ")
		takes, _ := strconv.Atoi(parts[1])
		puts, _ := strconv.Atoi(parts[2])
		for _, name := range strings.Split(strings.ToLower(parts[0]), ", ") {
			for c := range 256 {
				if code.Name(api.Code(c)) == name {
					all[api.Code(c)] = told{takes, puts, parts[3]}
				}
			}
		}
	}
	return all
}

var filters, outputs = tableOf(0), tableOf(1)

// codes are the instructions of a machine.
func (all table) codes() []api.Code { return slices.Sorted(maps.Keys(all)) }

// fit tells whether the operands of an instruction are as its row says, but for jumps.
func (w told) fit(p api.Program, i api.Ins) bool {
	of := func(n, many int) bool { return 0 <= n && n < many }
	switch w.needs {
	case "none", "none; the end":
		return i.A == 0 && i.B == 0
	case "A: a jump":
		return i.B == 0
	case "A of Names, B of Texts":
		return of(i.A, len(p.Names)) && of(i.B, len(p.Texts))
	case "A of Names, B of Lists":
		return of(i.A, len(p.Names)) && of(i.B, len(p.Lists))
	case "A, B of Names":
		return of(i.A, len(p.Names)) && of(i.B, len(p.Names))
	case "A from 0 to 5, B of Times":
		return of(i.A, 6) && of(i.B, len(p.Times))
	case "A of Accs":
		return of(i.A, len(p.Accs)) && i.B == 0
	case "A of Ints":
		return of(i.A, len(p.Ints)) && i.B == 0
	case "A of Aliases":
		return of(i.A, len(p.Aliases)) && i.B == 0
	case "A of Accs, a TotalOf; B of Accs, a Count of the same field":
		return of(i.A, len(p.Accs)) && of(i.B, len(p.Accs)) && p.Accs[i.A].Func == api.TotalOf && p.Accs[i.B].Func == api.Count && p.Accs[i.A].Field == p.Accs[i.B].Field
	}
	panic(w.needs)
}

func isName(s string) bool { return isText(s) && s != "" && len(s) <= 64 }

func isColumn(s string) bool { return isName(s) && s != "time" }

func isText(s string) bool {
	return len(s) <= 256 && s == strings.ToValidUTF8(s, "") && strings.IndexFunc(s, func(r rune) bool { return r < 32 || r == 127 }) < 0
}

// isHead is the chapter's word on a program's head.
func isHead(p api.Program) bool {
	once := map[string]int{}
	for _, s := range slices.Concat(p.Groups, p.Aliases, p.Names) {
		if !isColumn(s) {
			return false
		}
	}
	for _, s := range slices.Concat(p.Texts, slices.Concat(p.Lists...)) {
		if !isText(s) {
			return false
		}
	}
	for _, s := range p.Aliases {
		once[s]++
	}
	for _, l := range p.Lists {
		if len(l) == 0 || len(l) > 64 {
			return false
		}
	}
	for _, a := range p.Accs {
		if !isColumn(a.Field) || !slices.Contains([]api.Func{1, 2, 4, 5, 6, 7}, a.Func) {
			return false
		}
	}
	return isName(p.From) && (p.Into == "" || isName(p.Into)) && p.Every > 0 && p.Every <= 1<<58 && p.Offset >= 0 && p.Offset < p.Every &&
		len(p.Groups) <= 8 && len(p.Aliases) > 0 && len(p.Aliases) <= 16 && len(once) == len(p.Aliases) && len(p.Filter) <= 1<<16 && len(p.Output) <= 1<<16
}

// isFormed is the chapter's word on instructions by themselves: an error and its place in the code.
func isFormed(p api.Program, l []api.Ins, all table) (api.Errno, int) {
	for at, i := range l {
		row, there := all[i.Code]
		if !there {
			return api.ErrCode, at
		}
		if !row.fit(p, i) {
			return api.ErrOperand, at
		}
		if row.needs == "A: a jump" && (i.A <= at || i.A >= len(l)) {
			return api.ErrJump, at
		}
		if strings.HasSuffix(row.needs, "the end") && at != len(l)-1 {
			return api.ErrEnd, at
		}
	}
	if len(l) == 0 || !strings.HasSuffix(all[l[len(l)-1].Code].needs, "the end") {
		return api.ErrEnd, len(l)
	}
	return 0, 0
}

// highs are all heights that ways bring ahead of each instruction, and the first one that goes wrong (-1: none).
func highs(l []api.Ins, all table) (heights [][]int, wrong int) {
	heights = make([][]int, len(l)+1)
	bad := make([]bool, len(l)+1)
	var walk func(at, height int)
	walk = func(at, height int) {
		if at == len(l) || slices.Contains(heights[at], height) {
			return
		}
		heights[at] = append(heights[at], height)
		row := all[l[at].Code]
		behind := height - row.takes + row.puts
		if height < row.takes || behind > 200 || at == len(l)-1 && behind != 0 {
			bad[at] = true
			return
		}
		if row.needs == "A: a jump" {
			walk(l[at].A, behind)
		}
		walk(at+1, behind)
	}
	walk(0, 0)
	for at := range l {
		if bad[at] || len(heights[at]) > 1 {
			return heights, at
		}
	}
	return heights, -1
}

// judge is the chapter's word on a program: an error and its place.
func judge(p api.Program) (api.Errno, int) {
	if !isHead(p) {
		return api.ErrOperand, expect.None
	}
	if e, at := isFormed(p, p.Filter, filters); e != 0 {
		return e, at
	}
	if e, at := isFormed(p, p.Output, outputs); e != 0 {
		return e, at + len(p.Filter)
	}
	if _, at := highs(p.Filter, filters); at >= 0 {
		return api.ErrStack, at
	}
	if _, at := highs(p.Output, outputs); at >= 0 {
		return api.ErrStack, at + len(p.Filter)
	}
	var emitted []int
	for _, i := range p.Output {
		if i.Code == api.Emit {
			emitted = append(emitted, i.A)
		}
	}
	slices.Sort(emitted)
	for i := range max(len(emitted), len(p.Aliases)) {
		if len(emitted) != len(p.Aliases) || emitted[i] != i {
			return api.ErrEnd, expect.None
		}
	}
	return 0, expect.None
}

// some draws so many things.
func some[T any](many int, one func() T) (l []T) {
	for range many {
		l = append(l, one())
	}
	return l
}

// operandsOf draws an instruction's operands, but for jumps.
func operandsOf(d sample.Draw, p api.Program, c api.Code) api.Ins {
	i := api.Ins{Code: c}
	switch c {
	case api.PushTag:
		i.A, i.B = d(len(p.Names)), d(len(p.Texts))
	case api.PushIn:
		i.A, i.B = d(len(p.Names)), d(len(p.Lists))
	case api.PushSame:
		i.A, i.B = d(len(p.Names)), d(len(p.Names))
	case api.PushTime:
		i.A, i.B = d(6), d(len(p.Times))
	case api.LoadAcc:
		i.A = d(len(p.Accs))
	case api.LoadInt:
		i.A = d(len(p.Ints))
	case api.Ratio:
		i.B = 1
	}
	return i
}

// filterOf draws a filter that passes, of about so many instructions.
func filterOf(d sample.Draw, p api.Program, many int) []api.Ins {
	var l []api.Ins
	var heights []int
	height := 0
	for len(l) < many || height != 1 {
		c := sample.One(d, filters.codes()...)
		row := filters[c]
		switch {
		case c == api.Accept || row.takes > height || height > 190 && row.puts > row.takes:
			continue
		case len(l) >= many && height > 1 && row.takes <= row.puts:
			continue
		}
		l, heights = append(l, operandsOf(d, p, c)), append(heights, height)
		height += row.puts - row.takes
	}
	l, heights = append(l, api.Ins{Code: api.Accept}), append(heights, 1)
	for at := range l {
		if filters[l[at].Code].needs != "A: a jump" {
			continue
		}
		var aims []int
		for to := at + 1; to < len(l); to++ {
			if heights[to] == heights[at] {
				aims = append(aims, to)
			}
		}
		// At least the next one has its height.
		l[at].A = sample.One(d, aims...)
	}
	return l
}

// outputOf draws an output that passes, of about so many instructions, and its aliases.
func outputOf(d sample.Draw, p api.Program, many int) (l []api.Ins, aliases []string) {
	height := 0
	emit := func() {
		l, aliases = append(l, api.Ins{Code: api.Emit}), append(aliases, "item "+strconv.Itoa(len(aliases)))
		height--
	}
	for len(l) < many || height == 0 && len(aliases) == 0 || height > 1 {
		c := sample.One(d, outputs.codes()...)
		row := outputs[c]
		switch {
		case c == api.Done || row.takes > height || height > 190 && row.puts > row.takes || len(l) >= many && height > 0 && row.takes < 2:
		case c == api.Emit && len(aliases) < 15:
			emit()
		case c != api.Emit:
			l = append(l, operandsOf(d, p, c))
			height += row.puts - row.takes
		}
		if len(l) >= many && height == 1 {
			break
		}
	}
	if height > 0 {
		emit()
	}
	order := rand.New(rand.NewSource(int64(d(1000)))).Perm(len(aliases))
	for i := range l {
		if l[i].Code == api.Emit {
			l[i].A, order = order[0], order[1:]
		}
	}
	return append(l, api.Ins{Code: api.Done}), aliases
}

// passing draws a program that passes, whose filter and output have about so many instructions.
func passing(d sample.Draw, many int) api.Program {
	p := api.Program{From: sample.One(d, "time", d.Name()), Into: sample.One(d, "", "time", d.Name()), Every: 1 + int64(d(1<<40))}
	p.Offset = sample.One(d, 0, p.Every-1)
	p.Groups = some(d(9), d.Name)
	p.Names, p.Texts = some(1+d(3), d.Name), some(1+d(3), d.Text)
	p.Lists = some(1+d(3), func() []string { return some(1+d(3), d.Text) })
	number := func() int64 { return sample.One(d, d.Number(), math.MinInt64) }
	p.Times, p.Ints = some(1+d(3), number), some(1+d(3), number)
	field := d.Name()
	p.Accs = append([]api.Acc{{Func: api.TotalOf, Field: field}, {Func: api.Count, Field: field}}, some(d(3), func() api.Acc {
		return api.Acc{Func: sample.One(d, api.Count, api.TotalOf, api.Min, api.Max, api.First, api.Last), Field: d.Name()}
	})...)
	p.Filter = filterOf(d, p, many)
	p.Output, p.Aliases = outputOf(d, p, many)
	return p
}

// spoil is a program with one thing of it changed, or two.
func spoil(d sample.Draw, p api.Program) api.Program {
	p = sample.CopyProgram(p)
	spoilCode(d, sample.One(d, &p.Filter, &p.Filter, &p.Output))
	switch d(6) {
	case 0:
		spoilHead(d, &p)
	case 1:
		spoilCode(d, &p.Filter)
	}
	return p
}

// spoilCode changes something of a program's code.
func spoilCode(d sample.Draw, l *[]api.Ins) {
	if len(*l) == 0 {
		return
	}
	at := d(len(*l))
	i := &(*l)[at]
	number := sample.One(d, -1, 0, 1, 2, 3, 5, 6, at, at+1, at+2, len(*l)-1, len(*l), math.MaxInt, math.MinInt)
	other := api.Ins{Code: api.Code(d(26)), A: sample.One(d, 0, 0, 1, number), B: sample.One(d, 0, 0, 1)}
	switch d(8) {
	case 0:
		i.Code = other.Code
	case 1:
		i.A = number
	case 2:
		i.B = number
	case 3:
		*l = slices.Delete(*l, at, at+1)
	case 4:
		*l = slices.Insert(*l, at, other)
	case 5:
		*l = append(*l, other)
	case 6:
		*i = other
	}
}

// spoilHead changes something of a program's head.
func spoilHead(d sample.Draw, p *api.Program) {
	name := sample.One(d, "", "time", "x", "a\n", "\xff", "\x7f", strings.Repeat("n", 64), strings.Repeat("n", 65), strings.Repeat("t", 256), strings.Repeat("t", 257))
	number := sample.One[int64](d, math.MinInt64, -1, 0, 1, api.MaxEvery, api.MaxEvery+1, math.MaxInt64)
	switch d(14) {
	case 0:
		p.From = name
	case 1:
		p.Into = name
	case 2:
		p.Every = number
	case 3:
		p.Offset = number
	case 4:
		p.Groups = append(p.Groups, name)
	case 5:
		p.Accs[d(len(p.Accs))].Func = api.Func(d(11))
	case 6:
		p.Accs[d(len(p.Accs))].Field = name
	case 7:
		p.Aliases[d(len(p.Aliases))] = sample.One(d, name, p.Aliases[0])
	case 8:
		p.Names[d(len(p.Names))] = name
	case 9:
		p.Texts[d(len(p.Texts))] = name
	case 10:
		list := &p.Lists[d(len(p.Lists))]
		*list = slices.Repeat([]string{name}, d(67))
	case 11:
		p.Names, p.Texts = p.Names[1:], p.Texts[1:]
	case 12:
		p.Lists, p.Times, p.Ints = p.Lists[1:], p.Times[1:], p.Ints[1:]
	case 13:
		p.Accs, p.Aliases = p.Accs[1:], sample.One(d, p.Aliases[1:], append(p.Aliases, name))
	}
}
