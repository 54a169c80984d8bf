package vm

import (
	"cmp"
	"slices"

	"weir/api"
	"weir/key"
)

// filter is a run of truths.
type filter struct {
	run[bool]
	program api.Program
	tags    []api.Tag
	time    int64
	answer  bool
}

// filters are what the instructions of a filter do, by their codes.
func filters() [api.Accept + 1]func(*filter, api.Ins) {
	return [...]func(*filter, api.Ins){
		api.PushTrue:  func(f *filter, _ api.Ins) { f.push(true) },
		api.PushFalse: func(f *filter, _ api.Ins) { f.push(false) },
		api.PushTag:   (*filter).pushTag,
		api.PushIn:    (*filter).pushIn,
		api.PushSame:  (*filter).pushSame,
		api.PushTime:  (*filter).pushTime,
		api.Not:       func(f *filter, _ api.Ins) { f.push(!f.pop()) },
		api.And:       func(f *filter, _ api.Ins) { b, a := f.pop(), f.pop(); f.push(a && b) },
		api.Or:        func(f *filter, _ api.Ins) { b, a := f.pop(), f.pop(); f.push(a || b) },
		api.JumpFalse: func(f *filter, ins api.Ins) { f.jump(ins.A, false) },
		api.JumpTrue:  func(f *filter, ins api.Ins) { f.jump(ins.A, true) },
		api.Pop:       func(f *filter, _ api.Ins) { f.pop() },
		api.Accept:    func(f *filter, _ api.Ins) { f.answer = f.pop(); f.end() },
	}
}

// tag is the text of the tag whose name has a number.
func (f *filter) tag(n int) string {
	f.must(has(f.program.Names, n))
	return key.Value(f.tags, f.program.Names[n])
}

func (f *filter) pushTag(ins api.Ins) {
	f.must(has(f.program.Texts, ins.B))
	f.push(f.tag(ins.A) == f.program.Texts[ins.B])
}

func (f *filter) pushIn(ins api.Ins) {
	f.must(has(f.program.Lists, ins.B))
	f.push(slices.Contains(f.program.Lists[ins.B], f.tag(ins.A)))
}

func (f *filter) pushSame(ins api.Ins) { f.push(f.tag(ins.A) == f.tag(ins.B)) }

func (f *filter) pushTime(ins api.Ins) {
	f.must(has(f.program.Times, ins.B))
	order := cmp.Compare(f.time, f.program.Times[ins.B])
	signs := [...]bool{order == 0, order != 0, order < 0, order <= 0, order > 0, order >= 0}
	f.must(has(signs[:], ins.A))
	f.push(signs[ins.A])
}

// jump goes on at another instruction, if the top is a truth. It may go behind
// the last one, where the code has its end, but not farther.
func (f *filter) jump(to int, when bool) {
	f.must(f.at < to && to <= len(f.program.Filter))
	top := f.pop()
	f.push(top)
	if top == when {
		f.next = to
	}
}
