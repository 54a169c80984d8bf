package verify

import (
	"math/rand"
	"slices"
	"strconv"
	"strings"
	"testing"

	"weir/api"
	"weir/code"
	"weir/expect"
	"weir/sample"
)

// fails holds an error without an index against a number and a place.
func fails(t *testing.T, what any, err error, e api.Errno, pos int) {
	t.Helper()
	if wrong := expect.Wrong(err, e, pos, expect.None); wrong != "" {
		t.Errorf("%.2000v: %v: %s", what, err, wrong)
	}
}

// draw draws from a source with a fixed seed, so that each run draws the same.
func draw() sample.Draw { return rand.New(rand.NewSource(1970)).Intn }

// tables are the chapter's, one for each machine.
var tables = []string{`
PushTrue, PushFalse | 0 | 1 | none
PushTag | 0 | 1 | A of Names, B of Texts
PushIn | 0 | 1 | A of Names, B of Lists
PushSame | 0 | 1 | A, B of Names
PushTime | 0 | 1 | A from 0 to 5, B of Times
Not | 1 | 1 | none
And, Or | 2 | 1 | none
JumpFalse, JumpTrue | 1 | 1 | A: a jump
Pop | 1 | 0 | none
Accept | 1 | 0 | none; the end
`, `
LoadAcc | 0 | 1 | A of Accs
LoadInt | 0 | 1 | A of Ints
Ratio | 0 | 1 | A of Accs, a TotalOf; B of Accs, a Count of the same field
Neg | 1 | 1 | none
Add, Sub, Mul, Div, Mod | 2 | 1 | none
Emit | 1 | 0 | A of Aliases
Done | 0 | 0 | none; the end
`}

// told is what a table tells of an instruction.
type told struct {
	takes, puts int
	needs       string
}

// table is that of a machine, by instructions.
type table map[api.Code]told

func tableOf(machine int) table {
	all := table{}
	for _, line := range strings.Split(strings.TrimSpace(tables[machine]), "\n") {
		parts := strings.Split(line, " | ")
		takes, _ := strconv.Atoi(parts[1])
		puts, _ := strconv.Atoi(parts[2])
		for _, name := range strings.Split(strings.ToLower(parts[0]), ", ") {
			for c := range 256 {
				if code.Name(api.Code(c)) == name {
					all[api.Code(c)] = told{takes, puts, parts[3]}
				}
			}
		}
	}
	return all
}

var filters, outputs = tableOf(0), tableOf(1)

// fit tells whether the operands of an instruction are as its row says, but for jumps.
func (w told) fit(p api.Program, i api.Ins) bool {
	of := func(n, many int) bool { return 0 <= n && n < many }
	switch w.needs {
	case "none", "none; the end":
		return i.A == 0 && i.B == 0
	case "A: a jump":
		return i.B == 0
	case "A of Names, B of Texts":
		return of(i.A, len(p.Names)) && of(i.B, len(p.Texts))
	case "A of Names, B of Lists":
		return of(i.A, len(p.Names)) && of(i.B, len(p.Lists))
	case "A, B of Names":
		return of(i.A, len(p.Names)) && of(i.B, len(p.Names))
	case "A from 0 to 5, B of Times":
		return of(i.A, 6) && of(i.B, len(p.Times))
	case "A of Accs":
		return of(i.A, len(p.Accs)) && i.B == 0
	case "A of Ints":
		return of(i.A, len(p.Ints)) && i.B == 0
	case "A of Aliases":
		return of(i.A, len(p.Aliases)) && i.B == 0
	case "A of Accs, a TotalOf; B of Accs, a Count of the same field":
		return of(i.A, len(p.Accs)) && of(i.B, len(p.Accs)) && p.Accs[i.A].Func == api.TotalOf && p.Accs[i.B].Func == api.Count && p.Accs[i.A].Field == p.Accs[i.B].Field
	}
	panic(w.needs)
}

func isName(s string) bool { return isText(s) && s != "" && len(s) <= 64 }

func isColumn(s string) bool { return isName(s) && s != "time" }

func isText(s string) bool {
	return len(s) <= 256 && s == strings.ToValidUTF8(s, "") && strings.IndexFunc(s, func(r rune) bool { return r < 32 || r == 127 }) < 0
}

// isHead is the chapter's word on a program's head.
func isHead(p api.Program) bool {
	once := map[string]int{}
	for _, s := range slices.Concat(p.Groups, p.Aliases, p.Names) {
		if !isColumn(s) {
			return false
		}
	}
	for _, s := range slices.Concat(p.Texts, slices.Concat(p.Lists...)) {
		if !isText(s) {
			return false
		}
	}
	for _, s := range p.Aliases {
		once[s]++
	}
	for _, l := range p.Lists {
		if len(l) == 0 || len(l) > 64 {
			return false
		}
	}
	for _, a := range p.Accs {
		if !isColumn(a.Field) || !slices.Contains([]api.Func{1, 2, 4, 5, 6, 7}, a.Func) {
			return false
		}
	}
	return isName(p.From) && (p.Into == "" || isName(p.Into)) && p.Every > 0 && p.Every <= 1<<58 && p.Offset >= 0 && p.Offset < p.Every &&
		len(p.Groups) <= 8 && len(p.Aliases) > 0 && len(p.Aliases) <= 16 && len(once) == len(p.Aliases) && len(p.Filter) <= 1<<16 && len(p.Output) <= 1<<16
}

// isFormed is the chapter's word on instructions by themselves: an error and its place in the code.
func isFormed(p api.Program, l []api.Ins, all table) (api.Errno, int) {
	for at, i := range l {
		row, there := all[i.Code]
		if !there {
			return api.ErrCode, at
		}
		if !row.fit(p, i) {
			return api.ErrOperand, at
		}
		if row.needs == "A: a jump" && (i.A <= at || i.A >= len(l)) {
			return api.ErrJump, at
		}
		if strings.HasSuffix(row.needs, "the end") && at != len(l)-1 {
			return api.ErrEnd, at
		}
	}
	if len(l) == 0 || !strings.HasSuffix(all[l[len(l)-1].Code].needs, "the end") {
		return api.ErrEnd, len(l)
	}
	return 0, 0
}

// highs are all heights that ways bring ahead of each instruction, and the first one that goes wrong (-1: none).
func highs(l []api.Ins, all table) (heights [][]int, wrong int) {
	heights = make([][]int, len(l)+1)
	bad := make([]bool, len(l)+1)
	var walk func(at, height int)
	walk = func(at, height int) {
		if at == len(l) || slices.Contains(heights[at], height) {
			return
		}
		heights[at] = append(heights[at], height)
		row := all[l[at].Code]
		behind := height - row.takes + row.puts
		if height < row.takes || behind > 200 || at == len(l)-1 && behind != 0 {
			bad[at] = true
			return
		}
		if row.needs == "A: a jump" {
			walk(l[at].A, behind)
		}
		walk(at+1, behind)
	}
	walk(0, 0)
	for at := range l {
		if bad[at] || len(heights[at]) > 1 {
			return heights, at
		}
	}
	return heights, -1
}

// judge is the chapter's word on a program: an error and its place.
func judge(p api.Program) (api.Errno, int) {
	if !isHead(p) {
		return api.ErrOperand, expect.None
	}
	if e, at := isFormed(p, p.Filter, filters); e != 0 {
		return e, at
	}
	if e, at := isFormed(p, p.Output, outputs); e != 0 {
		return e, at + len(p.Filter)
	}
	if _, at := highs(p.Filter, filters); at >= 0 {
		return api.ErrStack, at
	}
	if _, at := highs(p.Output, outputs); at >= 0 {
		return api.ErrStack, at + len(p.Filter)
	}
	var emitted []int
	for _, i := range p.Output {
		if i.Code == api.Emit {
			emitted = append(emitted, i.A)
		}
	}
	slices.Sort(emitted)
	for i := range max(len(emitted), len(p.Aliases)) {
		if len(emitted) != len(p.Aliases) || emitted[i] != i {
			return api.ErrEnd, expect.None
		}
	}
	return 0, expect.None
}
