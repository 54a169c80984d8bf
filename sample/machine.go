package sample

import "weir/api"

// Step is an instruction that was run, by its number, and how high the stack was ahead of it.
type Step struct{ At, Height int }

// Accepts runs a filter, and tells its answer and what was run. What is asked of tags and the time is what holds says.
// Code that goes wrong makes it panic.
func Accepts(code []api.Ins, holds func(api.Ins) bool) (answer bool, run []Step) {
	var stack []bool
	push := func(truth bool) { stack = append(stack, truth) }
	pop := func() bool {
		top := stack[len(stack)-1]
		stack = stack[:len(stack)-1]
		return top
	}
	for at := 0; ; {
		ins := code[at]
		run = append(run, Step{at, len(stack)})
		at++
		switch ins.Code {
		case api.PushTrue, api.PushFalse:
			push(ins.Code == api.PushTrue)
		case api.Not:
			push(!pop())
		case api.And, api.Or:
			a, b := pop(), pop()
			push(a && b || ins.Code == api.Or && (a || b))
		case api.JumpFalse, api.JumpTrue:
			top := pop()
			push(top)
			if top == (ins.Code == api.JumpTrue) {
				at = ins.A
			}
		case api.Pop:
			pop()
		case api.Accept:
			return pop(), run
		default:
			push(holds(ins))
		}
	}
}

// Emits runs an output, and tells what is told of each item that is emitted, by its number, and what was run.
// What accumulators tell is what acc says; of a ratio it tells a number that hangs on both of them.
// Code that goes wrong makes it panic.
func Emits(p api.Program, acc func(n int) api.Told) (told map[int]api.Told, run []Step) {
	var stack []api.Told
	push := func(one api.Told) { stack = append(stack, one) }
	pop := func() api.Told {
		top := stack[len(stack)-1]
		stack = stack[:len(stack)-1]
		return top
	}
	ops := map[api.Code]api.Op{api.Add: api.OpAdd, api.Sub: api.OpSub, api.Mul: api.OpMul, api.Div: api.OpDiv, api.Mod: api.OpMod}
	told = map[int]api.Told{}
	for at := 0; ; at++ {
		ins := p.Output[at]
		run = append(run, Step{at, len(stack)})
		switch ins.Code {
		case api.LoadAcc:
			push(acc(ins.A))
		case api.LoadInt:
			push(api.Told{Some: true, Value: api.Value{N: p.Ints[ins.A]}})
		case api.Ratio:
			push(Operator(api.OpDiv, acc(ins.A), acc(ins.B)))
		case api.Neg:
			push(Operator(api.OpNeg, pop()))
		case api.Emit:
			told[ins.A] = pop()
		case api.Done:
			return told, run
		default:
			b, a := pop(), pop()
			push(Operator(ops[ins.Code], a, b))
		}
	}
}
