package verify

import (
	"slices"

	"weir/api"
	"weir/fault"
)

// machine is one of the two that run a program's code.
type machine uint8

const (
	filter machine = 1 + iota
	output
)

// operand is what an operand must be.
type operand uint8

const (
	unused operand = iota
	ofNames
	ofTexts
	ofLists
	ofTimes
	ofSigns
	ofAccs
	ofInts
	ofAliases
	aJump // which is asked for by itself
	operands
)

// signs is how many ways there are in which a time can be compared with another one.
const signs = 6

// row is what an instruction takes off the stack, puts on it, and needs; and whether the code ends with it.
type row struct {
	of          machine
	takes, puts int
	a, b        operand
	ends        bool
}

var rows = [...]row{
	api.PushTrue:  {of: filter, puts: 1},
	api.PushFalse: {of: filter, puts: 1},
	api.PushTag:   {of: filter, puts: 1, a: ofNames, b: ofTexts},
	api.PushIn:    {of: filter, puts: 1, a: ofNames, b: ofLists},
	api.PushSame:  {of: filter, puts: 1, a: ofNames, b: ofNames},
	api.PushTime:  {of: filter, puts: 1, a: ofSigns, b: ofTimes},
	api.Not:       {of: filter, takes: 1, puts: 1},
	api.And:       {of: filter, takes: 2, puts: 1},
	api.Or:        {of: filter, takes: 2, puts: 1},
	api.JumpFalse: {of: filter, takes: 1, puts: 1, a: aJump},
	api.JumpTrue:  {of: filter, takes: 1, puts: 1, a: aJump},
	api.Pop:       {of: filter, takes: 1},
	api.Accept:    {of: filter, takes: 1, ends: true},
	api.LoadAcc:   {of: output, puts: 1, a: ofAccs},
	api.LoadInt:   {of: output, puts: 1, a: ofInts},
	api.Ratio:     {of: output, puts: 1, a: ofAccs, b: ofAccs},
	api.Neg:       {of: output, takes: 1, puts: 1},
	api.Add:       {of: output, takes: 2, puts: 1},
	api.Sub:       {of: output, takes: 2, puts: 1},
	api.Mul:       {of: output, takes: 2, puts: 1},
	api.Div:       {of: output, takes: 2, puts: 1},
	api.Mod:       {of: output, takes: 2, puts: 1},
	api.Emit:      {of: output, takes: 1, a: ofAliases},
	api.Done:      {of: output, ends: true},
}

// rowOf is the row of an instruction; of one that is none it is nothing.
func rowOf(c api.Code) row {
	if int(c) >= len(rows) {
		return row{}
	}
	return rows[c]
}

// sizes is how many there are of what an operand may be: it is the number of one of them.
type sizes [operands]int

func sizesOf(p api.Program) sizes {
	return sizes{
		unused: 1, ofNames: len(p.Names), ofTexts: len(p.Texts), ofLists: len(p.Lists), ofTimes: len(p.Times),
		ofSigns: signs, ofAccs: len(p.Accs), ofInts: len(p.Ints), ofAliases: len(p.Aliases),
	}
}

func (s sizes) have(o operand, n int) bool { return o == aJump || 0 <= n && n < s[o] }

// part is the code of one of a program's machines.
type part struct {
	of    machine
	code  []api.Ins
	first int // the place of its first instruction
}

func (c part) fail(at int, e api.Errno) error { return fault.At(c.first+at, e) }

// formed tells what is wrong with instructions by themselves, and with how the code ends.
func (c part) formed(p api.Program) error {
	sizes, last := sizesOf(p), len(c.code)-1
	for at, ins := range c.code {
		row := rowOf(ins.Code)
		switch {
		case row.of != c.of:
			return c.fail(at, api.ErrCode)
		case !sizes.have(row.a, ins.A) || !sizes.have(row.b, ins.B) || ins.Code == api.Ratio && !ratio(p.Accs[ins.A], p.Accs[ins.B]):
			return c.fail(at, api.ErrOperand)
		case row.a == aJump && (ins.A <= at || ins.A > last):
			return c.fail(at, api.ErrJump)
		case row.ends && at < last:
			return c.fail(at, api.ErrEnd)
		}
	}
	if last < 0 || !rows[c.code[last].Code].ends {
		return c.fail(len(c.code), api.ErrEnd)
	}
	return nil
}

// ratio tells whether two accumulators are the sum and the count of one field.
func ratio(total, count api.Acc) bool {
	return total.Func == api.TotalOf && count == api.Acc{Func: api.Count, Field: total.Field}
}

// heights are how high the stack is ahead of each instruction.
func (c part) heights() ([]int, error) {
	heights := make([]int, len(c.code))
	ahead := ways[int]{0: 0}
	for at, ins := range c.code {
		height, _ := ahead.take(at)
		row := rows[ins.Code]
		behind := height - row.takes + row.puts
		// What is unlike is lower than all that an instruction takes.
		if height < row.takes || behind > api.MaxStack || row.ends && behind > 0 {
			return nil, c.fail(at, api.ErrStack)
		}
		heights[at] = height
		ahead.bring(at+1, behind, sameHeight)
		if row.a == aJump {
			ahead.bring(ins.A, behind, sameHeight)
		}
	}
	return heights, nil
}

// unlike stands for the height where two ways bring unlike ones.
const unlike = -1

func sameHeight(a, b int) int {
	if a != b {
		return unlike
	}
	return a
}

// emitsEach tells whether each item is emitted just once.
func emitsEach(p api.Program) bool {
	times := make([]int, len(p.Aliases))
	for _, ins := range p.Output {
		if ins.Code == api.Emit {
			times[ins.A]++
		}
	}
	return !slices.ContainsFunc(times, func(n int) bool { return n != 1 })
}
