package verify

import (
	"slices"

	"weir/api"
)

// ways are what is brought to instructions that are still to be gone through, by their numbers.
// No way goes back: once an instruction has been come to, nothing is brought there any more.
type ways[S any] map[int]S

// bring lays down what one more way brings to an instruction.
func (w ways[S]) bring(to int, state S, meet func(a, b S) S) {
	if other, there := w[to]; there {
		state = meet(other, state)
	}
	w[to] = state
}

// take is what all ways bring to an instruction, if there are any.
func (w ways[S]) take(at int) (S, bool) {
	state, there := w[at]
	delete(w, at)
	return state, there
}

// truth is what is certain of a truth. Its numbers are such that of two the
// lower one is certain of both together, the higher one of one or the other,
// and that the opposite has the other sign.
type truth int8

const (
	no truth = iota - 1
	open
	yes
)

// dead are the instructions of a filter that passes which cannot be come to by what is certain.
func dead(code []api.Ins) []int {
	var never []int
	ahead := ways[[]truth]{0: nil}
	for at, ins := range code {
		stack, come := ahead.take(at)
		if !come {
			never = append(never, at)
			continue
		}
		behind := certain(stack, ins.Code)
		jumps, goesOn := leads(stack, ins.Code)
		if jumps {
			ahead.bring(ins.A, behind, sameTruths)
		}
		if goesOn {
			ahead.bring(at+1, behind, sameTruths)
		}
	}
	return never
}

// certain is what is certain of the stack behind an instruction, in memory of its own.
func certain(stack []truth, c api.Code) []truth {
	left := len(stack) - rows[c].takes
	behind, taken := slices.Clone(stack[:left]), stack[left:]
	switch c {
	case api.Pop, api.Accept:
		return behind
	case api.PushTrue:
		return append(behind, yes)
	case api.PushFalse:
		return append(behind, no)
	case api.Not:
		return append(behind, -taken[0])
	case api.And:
		return append(behind, min(taken[0], taken[1]))
	case api.Or:
		return append(behind, max(taken[0], taken[1]))
	case api.JumpFalse, api.JumpTrue:
		return append(behind, taken[0])
	}
	return append(behind, open)
}

// leads tells whether an instruction can go on at its aim, and whether it can at the next one.
func leads(stack []truth, c api.Code) (jumps, goesOn bool) {
	switch c {
	case api.JumpFalse:
		top := stack[len(stack)-1]
		return top != yes, top != no
	case api.JumpTrue:
		top := stack[len(stack)-1]
		return top != no, top != yes
	}
	return false, true
}

// sameTruths is what is certain on both of two ways, which bring stacks of one height.
func sameTruths(a, b []truth) []truth {
	both := slices.Clone(a)
	for i, t := range b {
		if both[i] != t {
			both[i] = open
		}
	}
	return both
}
