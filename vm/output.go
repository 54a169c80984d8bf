package vm

import (
	"weir/api"
	"weir/num"
	"weir/reckon"
)

// output is a run of what is told.
type output struct {
	run[api.Told]
	program api.Program
	slots   []api.Slot
	told    []api.Told
	emitted []bool // what is told may be nothing, and is told once all the same
}

// outputs are what the instructions of an output do, by their codes.
func outputs() [api.Done + 1]func(*output, api.Ins) {
	return [...]func(*output, api.Ins){
		api.LoadAcc: (*output).loadAcc,
		api.LoadInt: (*output).loadInt,
		api.Ratio:   (*output).ratio,
		api.Neg:     func(o *output, _ api.Ins) { o.push(reckon.Neg(o.pop())) },
		api.Add:     func(o *output, _ api.Ins) { o.two(reckon.Add) },
		api.Sub:     func(o *output, _ api.Ins) { o.two(reckon.Sub) },
		api.Mul:     func(o *output, _ api.Ins) { o.two(reckon.Mul) },
		api.Div:     func(o *output, _ api.Ins) { o.two(reckon.Div) },
		api.Mod:     func(o *output, _ api.Ins) { o.two(reckon.Mod) },
		api.Emit:    (*output).emit,
		api.Done:    func(o *output, _ api.Ins) { o.end() },
	}
}

// slot is an accumulator, and what it tells.
func (o *output) slot(n int) (api.Acc, api.Slot) {
	o.must(has(o.program.Accs, n) && has(o.slots, n))
	return o.program.Accs[n], o.slots[n]
}

func (o *output) loadAcc(ins api.Ins) {
	acc, slot := o.slot(ins.A)
	switch {
	case !slot.Some:
		o.push(api.Told{})
	case acc.Func == api.TotalOf:
		o.push(reckon.Of(num.Small(slot.Sum)))
	default:
		o.push(reckon.Int(slot.N))
	}
}

func (o *output) loadInt(ins api.Ins) {
	o.must(has(o.program.Ints, ins.A))
	o.push(reckon.Int(o.program.Ints[ins.A]))
}

func (o *output) ratio(ins api.Ins) {
	total, sum := o.slot(ins.A)
	count, by := o.slot(ins.B)
	o.must(total.Func == api.TotalOf && count == api.Acc{Func: api.Count, Field: total.Field})
	if !sum.Some || !by.Some {
		o.push(api.Told{})
		return
	}
	o.push(reckon.Of(num.Ratio(sum.Sum, by.N)))
}

// two puts what an operator tells of the two at the top in their place.
func (o *output) two(operator func(a, b api.Told) api.Told) {
	b, a := o.pop(), o.pop()
	o.push(operator(a, b))
}

func (o *output) emit(ins api.Ins) {
	o.must(has(o.told, ins.A) && !o.emitted[ins.A])
	o.told[ins.A], o.emitted[ins.A] = o.pop(), true
}
