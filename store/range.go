package store

import (
	"math"
	"slices"

	"weir/api"
	"weir/fault"
	"weir/series"
)

// Delete takes samples of a measure away, of the series of which a condition holds, from a time on and ahead of another.
func (s *Store) Delete(measure string, cond []api.Node, from, to int64) ([]api.Delta, error) {
	l, err := s.Scan(measure, cond, from, to)
	if err != nil {
		return nil, err
	}
	return s.take(l), nil
}

// Scan are samples likewise.
func (s *Store) Scan(measure string, cond []api.Node, from, to int64) ([]api.Write, error) {
	if s == nil {
		return nil, fault.New(api.ErrNil)
	}
	found, err := s.index.Match(measure, cond)
	if err != nil {
		return nil, err
	}
	if from > to {
		return nil, fault.New(api.ErrRange)
	}
	var l []api.Write
	for _, x := range found {
		l = append(l, writes(x, s.row(x).Range(from, to))...)
	}
	return l, nil
}

// Drop takes a measure away.
func (s *Store) Drop(measure string) []api.Delta {
	if s == nil {
		return nil
	}
	var l []api.Write
	for _, x := range s.List(measure) {
		l = append(l, writes(x, all(s.row(x)))...)
	}
	return s.take(l)
}

// take takes samples away that are there, in order.
func (s *Store) take(l []api.Write) []api.Delta {
	var deltas []api.Delta
	for _, w := range l {
		deltas = append(deltas, api.Delta{Series: w.Series, Time: w.Sample.Time, Had: true, Old: w.Sample.Value})
	}
	s.change(deltas)
	return deltas
}

// writes are samples of a series, each with tags of its own.
func writes(x api.Series, l []api.Sample) []api.Write {
	var out []api.Write
	for _, sample := range l {
		w := api.Write{Series: x, Sample: sample}
		w.Series.Tags = slices.Clone(x.Tags)
		out = append(out, w)
	}
	return out
}

// all are the samples of a row, one at the last of all times, too: no range reaches that.
func all(row *series.Series) []api.Sample {
	l := row.Range(math.MinInt64, math.MaxInt64)
	if v, there := row.Get(math.MaxInt64); there {
		l = append(l, api.Sample{Time: math.MaxInt64, Value: v})
	}
	return l
}
