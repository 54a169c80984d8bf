package sample

import (
	"math"
	"slices"
	"strconv"
	"strings"

	"weir/api"
)

// filterCodes and outputCodes are the instructions of the two machines, but for those that end a run.
var filterCodes = [...]api.Code{
	api.PushTrue, api.PushFalse, api.PushTag, api.PushIn, api.PushSame, api.PushTime,
	api.Not, api.And, api.Or, api.JumpFalse, api.JumpTrue, api.Pop,
}

var outputCodes = [...]api.Code{
	api.LoadAcc, api.LoadInt, api.Ratio, api.Neg, api.Add, api.Sub, api.Mul, api.Div, api.Mod, api.Emit,
}

// effect is how many an instruction takes off the stack, and how many it puts on.
func effect(c api.Code) (takes, puts int) {
	switch c {
	case api.PushTrue, api.PushFalse, api.PushTag, api.PushIn, api.PushSame, api.PushTime, api.LoadAcc, api.LoadInt, api.Ratio:
		return 0, 1
	case api.And, api.Or, api.Add, api.Sub, api.Mul, api.Div, api.Mod:
		return 2, 1
	case api.Pop, api.Emit:
		return 1, 0
	}
	return 1, 1
}

// Program draws a program that passes, whose filter and output have about so many instructions.
func (d Draw) Program(many int) api.Program {
	p := api.Program{From: One(d, "time", d.Name()), Into: One(d, "", "time", d.Name()), Every: 1 + int64(d(1<<40))}
	p.Offset = One(d, 0, p.Every-1)
	p.Groups = Some(d(9), d.Name)
	p.Names, p.Texts = Some(1+d(3), d.Name), Some(1+d(3), d.Text)
	p.Lists = Some(1+d(3), func() []string { return Some(1+d(3), d.Text) })
	number := func() int64 { return One(d, d.Number(), math.MinInt64) }
	p.Times, p.Ints = Some(1+d(3), number), Some(1+d(3), number)
	field := d.Name()
	p.Accs = append([]api.Acc{{Func: api.TotalOf, Field: field}, {Func: api.Count, Field: field}}, Some(d(3), func() api.Acc {
		return api.Acc{Func: One(d, api.Count, api.TotalOf, api.Min, api.Max, api.First, api.Last), Field: d.Name()}
	})...)
	p.Filter = d.filter(p, many)
	p.Output, p.Aliases = d.output(p, many)
	return p
}

// Some draws so many things.
func Some[T any](many int, one func() T) (l []T) {
	for range many {
		l = append(l, one())
	}
	return l
}

// Shuffled is a list in an order that is drawn.
func Shuffled[T any](d Draw, l []T) []T {
	var other []T
	for i, one := range l {
		other = slices.Insert(other, d(i+1), one)
	}
	return other
}

// operands draws an instruction's operands, but for jumps.
func (d Draw) operands(p api.Program, c api.Code) api.Ins {
	i := api.Ins{Code: c}
	switch c {
	case api.PushTag:
		i.A, i.B = d(len(p.Names)), d(len(p.Texts))
	case api.PushIn:
		i.A, i.B = d(len(p.Names)), d(len(p.Lists))
	case api.PushSame:
		i.A, i.B = d(len(p.Names)), d(len(p.Names))
	case api.PushTime:
		i.A, i.B = d(6), d(len(p.Times))
	case api.LoadAcc:
		i.A = d(len(p.Accs))
	case api.LoadInt:
		i.A = d(len(p.Ints))
	case api.Ratio:
		i.B = 1
	}
	return i
}

// filter draws a filter that passes.
func (d Draw) filter(p api.Program, many int) []api.Ins {
	var l []api.Ins
	var heights []int
	height := 0
	for len(l) < many || height != 1 {
		c := One(d, filterCodes[:]...)
		takes, puts := effect(c)
		if takes > height || height > 190 && puts > takes || len(l) >= many && height > 1 && takes <= puts {
			continue
		}
		l, heights = append(l, d.operands(p, c)), append(heights, height)
		height += puts - takes
	}
	l, heights = append(l, api.Ins{Code: api.Accept}), append(heights, 1)
	for at := range l {
		if l[at].Code != api.JumpFalse && l[at].Code != api.JumpTrue {
			continue
		}
		var aims []int
		for to := at + 1; to < len(l); to++ {
			if heights[to] == heights[at] {
				aims = append(aims, to)
			}
		}
		// At least the next one has its height.
		l[at].A = One(d, aims...)
	}
	return l
}

// output draws an output that passes, and its aliases.
func (d Draw) output(p api.Program, many int) (l []api.Ins, aliases []string) {
	height := 0
	emit := func() {
		l, aliases = append(l, api.Ins{Code: api.Emit}), append(aliases, "item "+strconv.Itoa(len(aliases)))
		height--
	}
	for len(l) < many || height == 0 && len(aliases) == 0 || height > 1 {
		c := One(d, outputCodes[:]...)
		takes, puts := effect(c)
		switch {
		case takes > height || height > 190 && puts > takes || len(l) >= many && height > 0 && takes < 2:
		case c == api.Emit && len(aliases) < api.MaxFields-1:
			emit()
		case c != api.Emit:
			l = append(l, d.operands(p, c))
			height += puts - takes
		}
		if len(l) >= many && height == 1 {
			break
		}
	}
	if height > 0 {
		emit()
	}
	var order []int
	for i := range aliases {
		order = append(order, i)
	}
	order = Shuffled(d, order)
	for i := range l {
		if l[i].Code == api.Emit {
			l[i].A, order = order[0], order[1:]
		}
	}
	return append(l, api.Ins{Code: api.Done}), aliases
}

// Broken is a program with one thing of it changed, or two: most do not pass then.
func (d Draw) Broken(p api.Program) api.Program {
	p = CopyProgram(p)
	d.breakCode(One(d, &p.Filter, &p.Filter, &p.Output))
	switch lists := []int{len(p.Accs), len(p.Aliases), len(p.Names), len(p.Texts), len(p.Lists), len(p.Times), len(p.Ints)}; d(6) {
	case 0:
		// A program that was broken before may have nothing left to be broken.
		if !slices.Contains(lists, 0) {
			d.breakHead(&p)
		}
	case 1:
		d.breakCode(&p.Filter)
	}
	return p
}

// breakCode changes something of a program's code.
func (d Draw) breakCode(l *[]api.Ins) {
	if len(*l) == 0 {
		return
	}
	at := d(len(*l))
	i := &(*l)[at]
	number := One(d, -1, 0, 1, 2, 3, 5, 6, at, at+1, at+2, len(*l)-1, len(*l), math.MaxInt, math.MinInt)
	other := api.Ins{Code: api.Code(d(26)), A: One(d, 0, 0, 1, number), B: One(d, 0, 0, 1)}
	switch d(8) {
	case 0:
		i.Code = other.Code
	case 1:
		i.A = number
	case 2:
		i.B = number
	case 3:
		*l = slices.Delete(*l, at, at+1)
	case 4:
		*l = slices.Insert(*l, at, other)
	case 5:
		*l = append(*l, other)
	case 6:
		*i = other
	}
}

// breakHead changes something of a program's head.
func (d Draw) breakHead(p *api.Program) {
	name := One(d, "", "time", "x", "a\n", "\xff", "\x7f", strings.Repeat("n", 64), strings.Repeat("n", 65), strings.Repeat("t", 256), strings.Repeat("t", 257))
	number := One[int64](d, math.MinInt64, -1, 0, 1, api.MaxEvery, api.MaxEvery+1, math.MaxInt64)
	switch d(14) {
	case 0:
		p.From = name
	case 1:
		p.Into = name
	case 2:
		p.Every = number
	case 3:
		p.Offset = number
	case 4:
		p.Groups = append(p.Groups, name)
	case 5:
		p.Accs[d(len(p.Accs))].Func = api.Func(d(11))
	case 6:
		p.Accs[d(len(p.Accs))].Field = name
	case 7:
		p.Aliases[d(len(p.Aliases))] = One(d, name, p.Aliases[0])
	case 8:
		p.Names[d(len(p.Names))] = name
	case 9:
		p.Texts[d(len(p.Texts))] = name
	case 10:
		list := &p.Lists[d(len(p.Lists))]
		*list = slices.Repeat([]string{name}, d(67))
	case 11:
		p.Names, p.Texts = p.Names[1:], p.Texts[1:]
	case 12:
		p.Lists, p.Times, p.Ints = p.Lists[1:], p.Times[1:], p.Ints[1:]
	case 13:
		p.Accs, p.Aliases = p.Accs[1:], One(d, p.Aliases[1:], append(p.Aliases, name))
	}
}
