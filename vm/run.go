package vm

import (
	"weir/api"
	"weir/fault"
)

// givenUp is the error with which a run ends early: a type by itself, so that no other panic is taken for it.
type givenUp struct{ error }

// run goes through code, one instruction behind the other, with a stack of what it works on.
type run[T any] struct {
	stack []T
	at    int // the instruction that is run
	next  int // the one that is run behind it
	steps int
	ended bool
}

// through runs code to its end, or to where the run is given up.
func (r *run[T]) through(code []api.Ins, do func(api.Ins)) (err error) {
	defer func() {
		switch end := recover().(type) {
		case nil:
		case givenUp:
			err = end.error
		default:
			panic(end)
		}
	}()
	for !r.ended {
		r.at = r.next
		r.must(r.at < len(code))
		r.next++
		r.steps++
		do(code[r.at])
	}
	return nil
}

// must gives up, if something is not as the instruction needs it.
func (r *run[T]) must(right bool) {
	if !right {
		panic(givenUp{fault.At(r.at, api.ErrFault)})
	}
}

func (r *run[T]) push(one T) {
	r.must(len(r.stack) < api.MaxStack)
	r.stack = append(r.stack, one)
}

func (r *run[T]) pop() T {
	last := len(r.stack) - 1
	r.must(last >= 0)
	top := r.stack[last]
	r.stack = r.stack[:last]
	return top
}

// end ends the run with a stack that must be empty by then.
func (r *run[T]) end() {
	r.must(len(r.stack) == 0)
	r.ended = true
}

// has tells whether a list has something of a number.
func has[T any](l []T, n int) bool { return 0 <= n && n < len(l) }
