package store

import (
	"weir/api"
	"weir/batch"
	"weir/fault"
	"weir/key"
)

// Write lays samples over those that are there, all or none.
func (s *Store) Write(l []api.Write) ([]api.Delta, error) {
	if s == nil {
		return nil, fault.New(api.ErrNil)
	}
	for i, w := range l {
		if err := right(w.Series, w.Sample.Value); err != nil {
			return nil, fault.In(i, err)
		}
	}
	var deltas []api.Delta
	for _, run := range runs(batch.Order(l), seriesOfWrite) {
		row := s.row(run[0].Series)
		for _, w := range run {
			d := api.Delta{Series: w.Series, Time: w.Sample.Time, Has: true, New: w.Sample.Value}
			d.Old, d.Had = row.Get(d.Time)
			if !same(d) {
				deltas = append(deltas, d)
			}
		}
	}
	if err := s.change(deltas); err != nil {
		return nil, err
	}
	return deltas, nil
}

// right tells what is wrong with a value of a series.
func right(x api.Series, v api.Value) error {
	if err := key.Right(x); err != nil {
		return err
	}
	mark := v.Kind == api.Over || v.Kind == api.Void
	if v.Kind == api.Int || mark && v.N == 0 {
		return nil
	}
	return fault.New(api.ErrRange)
}

// same tells whether there is ahead of a delta what is there behind it.
func same(d api.Delta) bool { return d.Had == d.Has && d.Old == d.New }

func seriesOfWrite(w api.Write) api.Series { return w.Series }

func seriesOfDelta(d api.Delta) api.Series { return d.Series }

// runs are the pieces of a row, in order of its series, that are of one series.
func runs[T any](l []T, of func(T) api.Series) [][]T {
	var pieces [][]T
	for len(l) > 0 {
		end := 1
		for end < len(l) && key.Compare(of(l[0]), of(l[end])) == 0 {
			end++
		}
		pieces = append(pieces, l[:end])
		l = l[end:]
	}
	return pieces
}
