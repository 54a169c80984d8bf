package norm

import (
	"math"

	"weir/api"
)

// times are those from one on and ahead of another; the zero value: none.
type times struct{ from, to int64 }

// all are the times that points may have.
func all() times { return times{-api.MaxTime, api.MaxTime + 1} }

// reach are the times at which a form can hold.
func reach(l []api.Node) times {
	switch l[0].Op {
	case api.OpFalse:
		return times{}
	case api.OpAnd:
		can := all()
		for _, kid := range kids(l) {
			can = shared(can, reach(kid))
		}
		return can
	case api.OpOr:
		var can times
		for _, kid := range kids(l) {
			can = around(can, reach(kid))
		}
		return can
	case api.OpEq, api.OpLt, api.OpLe, api.OpGt, api.OpGe:
		if l[1].Op == api.OpClock {
			return shared(all(), beside(l[0].Op, l[2].N))
		}
	}
	return all()
}

// beside are the times that stand to one as a sign says, as far as int64 goes: no point's time lies at its ends.
func beside(op api.Op, n int64) times {
	next := n + 1
	if n == math.MaxInt64 {
		next = n
	}
	switch op {
	case api.OpLt:
		return times{math.MinInt64, n}
	case api.OpLe:
		return times{math.MinInt64, next}
	case api.OpGt:
		return times{next, math.MaxInt64}
	case api.OpGe:
		return times{n, math.MaxInt64}
	default:
		return times{n, next}
	}
}

// shared are the times that lie in both.
func shared(a, b times) times {
	both := times{max(a.from, b.from), min(a.to, b.to)}
	if both.from >= both.to {
		return times{}
	}
	return both
}

// around are the times from the earlier beginning of both on, to the later end.
func around(a, b times) times {
	switch {
	case a == times{}:
		return b
	case b == times{}:
		return a
	}
	return times{min(a.from, b.from), max(a.to, b.to)}
}
