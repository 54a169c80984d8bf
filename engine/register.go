package engine

import (
	"math"

	"weir/api"
	"weir/ast"
	"weir/check"
	"weir/cq"
	"weir/fault"
	"weir/gen"
	"weir/parse"
)

// Register takes a query, and tells its number.
func (e *Engine) Register(text string) (int, error) {
	if e == nil {
		return 0, fault.New(api.ErrNil)
	}
	e.steps = 0
	q, err := e.made(text, e.plain)
	if err != nil {
		return 0, err
	}
	told, steps, err := q.live.Apply(come(e.all(q.source())))
	if err != nil {
		return 0, err
	}
	if err := e.store.Apply(from(-api.MaxTime, told)); err != nil {
		return 0, err
	}
	e.last++
	q.number = e.last
	e.queries.add(q)
	e.steps = steps
	return q.number, nil
}

// Drop lets a query go, and its target.
func (e *Engine) Drop(id int) error {
	q, err := e.query(id)
	if e != nil {
		e.steps = 0
	}
	if err != nil {
		return err
	}
	if len(e.queries.readers(q.target())) > 0 {
		return fault.New(api.ErrUsed)
	}
	e.queries.remove(q)
	e.store.Drop(q.target())
	delete(e.horizons, q.target())
	return nil
}

// made is a query of a text that may be registered, to which nothing has come. It has no number yet.
func (e *Engine) made(text string, plain bool) (*query, error) {
	read, err := parse.Query(text)
	if err != nil {
		return nil, err
	}
	asked, err := check.Query(e.Tables(), read)
	if err != nil {
		return nil, err
	}
	q := &query{asked: asked, plain: plain, level: e.level(asked.From.Text) + 1}
	switch {
	case q.target() == "":
		return nil, fault.New(api.ErrTarget)
	case len(e.queries.list) >= api.MaxOpen:
		return nil, fault.New(api.ErrFull)
	case q.level > api.MaxLevels:
		return nil, fault.New(api.ErrLevel)
	}
	if q.text, err = ast.Print(read); err != nil {
		return nil, err
	}
	q.live, err = begun(asked, plain)
	return q, err
}

// begun is a query that goes on, with nothing yet.
func begun(asked api.Query, plain bool) (*cq.Query, error) {
	p, err := planned(asked, plain)
	if err != nil {
		return nil, err
	}
	program, err := gen.Make(p)
	if err != nil {
		return nil, err
	}
	return cq.New(program)
}

// level is how many queries stand above one another up to a measure: none up to a table.
func (e *Engine) level(measure string) int {
	if q := e.queries.targets[measure]; q != nil {
		return q.level
	}
	return 0
}

// all are the samples of a measure. The times of points, and so of windows, end far ahead of the last time there is.
func (e *Engine) all(measure string) []api.Write {
	// Without a condition, and from the first time on, nothing is wrong with what is asked.
	l, _ := e.store.Scan(measure, nil, math.MinInt64, math.MaxInt64)
	return l
}

// come are the deltas of samples where nothing was.
func come(l []api.Write) []api.Delta {
	var deltas []api.Delta
	for _, w := range l {
		deltas = append(deltas, api.Delta{Series: w.Series, Time: w.Sample.Time, Has: true, New: w.Sample.Value})
	}
	return deltas
}

// from are the deltas that do not lie ahead of a time.
func from(t int64, l []api.Delta) []api.Delta {
	var kept []api.Delta
	for _, d := range l {
		if d.Time >= t {
			kept = append(kept, d)
		}
	}
	return kept
}
