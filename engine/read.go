package engine

import (
	"weir/api"
	"weir/cell"
	"weir/check"
	"weir/fault"
	"weir/parse"
)

// Read are samples of a measure.
func (e *Engine) Read(measure, cond string, from, to int64) ([]api.Write, error) {
	t, err := e.table(measure)
	if err != nil {
		return nil, err
	}
	return e.found(t, cond, from, to)
}

// Select answers a query without a target.
func (e *Engine) Select(text string) ([]api.Row, error) {
	if e == nil {
		return nil, fault.New(api.ErrNil)
	}
	read, err := parse.Query(text)
	if err != nil {
		return nil, err
	}
	q, err := check.Query(e.Tables(), read)
	if err != nil {
		return nil, err
	}
	if q.Into.Text != "" {
		return nil, fault.At(q.Into.Pos, api.ErrTarget)
	}
	rows, err := cell.Answer(q, e.all(q.From.Text))
	if err != nil {
		return nil, err
	}
	rows, err = cell.Fill(q, rows)
	if err != nil {
		return nil, err
	}
	if len(rows) > api.MaxRows {
		return nil, fault.New(api.ErrLong)
	}
	return rows, nil
}
