package index

import (
	"iter"

	"weir/api"
)

// match are the series of which a right condition holds.
func (t *table) match(cond []api.Node) []number {
	next := func() api.Node {
		n := cond[0]
		cond = cond[1:]
		return n
	}
	var walk func() []number
	walk = func() []number {
		switch n := next(); n.Op {
		case api.OpTrue:
			return t.all
		case api.OpNot:
			return without(t.all, walk())
		case api.OpAnd:
			return meetAll(t.all, times(n.Kids, walk))
		case api.OpOr:
			return joinAll(times(n.Kids, walk))
		case api.OpEq:
			return t.same(next(), next())
		case api.OpNe:
			return without(t.all, t.same(next(), next()))
		case api.OpIn:
			operand := next()
			return joinAll(times(n.Kids-1, func() []number { return t.same(operand, next()) }))
		default:
			return nil
		}
	}
	return walk()
}

// times yields what ask answers, so many times.
func times[T any](n int, ask func() T) iter.Seq[T] {
	return func(yield func(T) bool) {
		for range n {
			if !yield(ask()) {
				return
			}
		}
	}
}

// same are the series of which two operands are the same text.
func (t *table) same(a, b api.Node) []number {
	switch {
	case a.Op == api.OpTag && b.Op == api.OpTag:
		return joinAll(t.alike(a.S, b.S))
	case a.Op == api.OpTag:
		return t.find(a.S, b.S)
	case b.Op == api.OpTag:
		return t.find(b.S, a.S)
	case a.S == b.S:
		return t.all
	default:
		return nil
	}
}

// alike yields, text by text, the series of which both tags are that text.
func (t *table) alike(name, other string) iter.Seq[[]number] {
	return func(yield func([]number) bool) {
		if !yield(meet(t.find(name, ""), t.find(other, ""))) {
			return
		}
		for value, row := range t.tag(name).values {
			if !yield(meet(row, t.find(other, value))) {
				return
			}
		}
	}
}
