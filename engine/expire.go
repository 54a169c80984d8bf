package engine

import (
	"math"

	"weir/api"
	"weir/fault"
)

// Expire takes all samples of a measure ahead of a time away for ever; how many. What was told of them stays.
func (e *Engine) Expire(measure string, t int64) (int, error) {
	_, err := e.table(measure)
	if e != nil {
		e.steps = 0
	}
	if err != nil {
		return 0, err
	}
	if t < e.horizon(measure) || t > api.MaxTime {
		return 0, fault.New(api.ErrRange)
	}
	readers := e.queries.readers(measure)
	for _, q := range readers {
		if !q.begins(t) {
			return 0, fault.New(api.ErrEdge)
		}
	}
	for _, q := range readers {
		// What is frozen already is so up to a horizon that was, which t is not below.
		q.live.Freeze(t)
		q.expired = q.expired || t > -api.MaxTime
	}
	if t > -api.MaxTime {
		e.horizons[measure] = t
	}
	// Without a condition, and from the first time on, nothing is wrong with what is asked.
	l, _ := e.store.Delete(measure, nil, math.MinInt64, t)
	return len(l), nil
}
