package engine

import (
	"slices"

	"weir/api"
	"weir/batch"
	"weir/check"
	"weir/fault"
	"weir/line"
	"weir/parse"
)

// Write takes lines of points, all or none; how many samples are others now.
func (e *Engine) Write(text string) (int, error) {
	if e == nil {
		return 0, fault.New(api.ErrNil)
	}
	e.steps = 0
	l, err := line.Parse(text)
	if err != nil {
		return 0, err
	}
	return e.Points(l)
}

// Points takes points, all or none.
func (e *Engine) Points(l []api.Point) (int, error) {
	if e == nil {
		return 0, fault.New(api.ErrNil)
	}
	e.steps = 0
	if len(l) > api.MaxBatch {
		return 0, fault.New(api.ErrLong)
	}
	for i, p := range l {
		if err := e.fits(p); err != nil {
			return 0, fault.In(i, err)
		}
	}
	writes, err := batch.Flat(l)
	if err != nil {
		return 0, err
	}
	return e.through(e.become(writes))
}

// Delete takes samples away; how many.
func (e *Engine) Delete(measure, cond string, from, to int64) (int, error) {
	t, err := e.table(measure)
	if e != nil {
		e.steps = 0
	}
	if err != nil {
		return 0, err
	}
	if e.queries.targets[measure] != nil {
		return 0, fault.New(api.ErrInto)
	}
	l, err := e.found(t, cond, from, to)
	if err != nil {
		return 0, err
	}
	return e.through(gone(l))
}

// fits tells why a point may not come.
func (e *Engine) fits(p api.Point) error {
	if err := batch.Right(p); err != nil {
		return err
	}
	if e.queries.targets[p.Measure] != nil {
		return fault.New(api.ErrInto)
	}
	if err := check.Point(e.schema, p); err != nil {
		return err
	}
	if p.Time < e.horizon(p.Measure) {
		return fault.New(api.ErrOld)
	}
	return nil
}

// found are the samples of a table, or of a target, of which a condition holds, from a time on and ahead of another.
func (e *Engine) found(t api.Table, cond string, from, to int64) ([]api.Write, error) {
	var tree []api.Node
	if cond != "" {
		read, err := parse.Cond(cond)
		if err != nil {
			return nil, err
		}
		tree = read
	}
	if err := check.Cond(t, tree); err != nil {
		return nil, err
	}
	return e.store.Scan(t.Measure, tree, from, to)
}

// become are the deltas of samples that are laid over those that are there.
func (e *Engine) become(l []api.Write) []api.Delta {
	var deltas []api.Delta
	for _, d := range come(l) {
		d.Old, d.Had = e.store.Get(d.Series, d.Time)
		if !d.Had || d.Old != d.New {
			deltas = append(deltas, d)
		}
	}
	return deltas
}

// gone are the deltas of samples that are taken away.
func gone(l []api.Write) []api.Delta { return opposite(come(l)) }

// opposite are deltas turned about, the last one first.
func opposite(l []api.Delta) []api.Delta {
	var back []api.Delta
	for _, d := range slices.Backward(l) {
		d.Had, d.Has, d.Old, d.New = d.Has, d.Had, d.New, d.Old
		back = append(back, d)
	}
	return back
}

// undo is what takes a call back that is given up, one function for each thing that was done.
type undo []func()

func (u undo) all() {
	for _, back := range slices.Backward(u) {
		back()
	}
}

// through lets deltas of tables go through all queries, and tells how many they were. The store is
// changed when all is known, at once: it looks for room behind that alone.
func (e *Engine) through(l []api.Delta) (many int, err error) {
	var back undo
	defer func() {
		if err != nil {
			back.all()
		}
	}()
	came := byMeasure(l)
	all, steps := slices.Clone(l), 0
	for _, q := range e.queries.list {
		heard := came[q.source()]
		told, ran, err := q.live.Apply(heard)
		if err != nil {
			return 0, err
		}
		back = append(back, func() { q.live.Apply(opposite(heard)) })
		told = from(e.horizon(q.target()), told)
		came[q.target()] = told
		all, steps = append(all, told...), steps+ran
	}
	if err := e.store.Apply(all); err != nil {
		return 0, err
	}
	e.steps = steps
	return len(l), nil
}

// byMeasure are the deltas of each measure.
func byMeasure(l []api.Delta) map[string][]api.Delta {
	came := map[string][]api.Delta{}
	for _, d := range l {
		came[d.Series.Measure] = append(came[d.Series.Measure], d)
	}
	return came
}
