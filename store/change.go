package store

import (
	"slices"

	"weir/api"
	"weir/key"
	"weir/series"
)

// few is how many samples of a series are cut one by one. Where more go, the
// stretch in which they lie is laid anew: each cut moves all that lies behind.
const few = 32

// step is a change of one series that was made, and can be taken back.
type step struct {
	undo func()
}

// change does deltas, by series, each with another end than beginning and no
// time of a series twice: all, or none if there is no room for what would be there.
func (s *Store) change(l []api.Delta) error {
	var steps []step
	for _, run := range runs(l, seriesOfDelta) {
		steps = append(steps, s.step(run))
	}
	err := s.room.refuses(len(s.rows), s.points)
	if err != nil {
		for _, done := range slices.Backward(steps) {
			done.undo()
		}
	}
	return err
}

// step does the deltas of one series.
func (s *Store) step(l []api.Delta) step {
	s.lay(l)
	return step{undo: func() {
		back := make([]api.Delta, len(l))
		for i, d := range l {
			back[i] = turned(d)
		}
		s.lay(back)
	}}
}

// lay lets the samples of one series be what the deltas say of their ends.
func (s *Store) lay(l []api.Delta) {
	name := key.Print(l[0].Series)
	row := s.rows[name]
	if row == nil {
		row = series.New()
		s.rows[name] = row
		s.index.Add(l[0].Series)
	}
	s.points -= row.Len()
	settle(row, l)
	s.points += row.Len()
	if row.Len() == 0 {
		delete(s.rows, name)
		s.index.Remove(l[0].Series)
	}
}

// settle puts the samples into a row that are there behind the deltas, and cuts the others.
func settle(row *series.Series, l []api.Delta) {
	var come []api.Sample
	var gone []int64
	for _, d := range l {
		if d.Has {
			come = append(come, api.Sample{Time: d.Time, Value: d.New})
		} else {
			gone = append(gone, d.Time)
		}
	}
	cut(row, gone)
	row.Load(come)
}

// cut takes the samples at rising times out of a row.
func cut(row *series.Series, gone []int64) {
	if len(gone) <= few {
		for _, t := range gone {
			row.Cut(t)
		}
		return
	}
	first, last := gone[0], gone[len(gone)-1]
	stay := slices.DeleteFunc(row.Delete(first, last), func(x api.Sample) bool {
		_, goes := slices.BinarySearch(gone, x.Time)
		return goes
	})
	row.Cut(last)
	row.Load(stay)
}

// turned is a delta the other way about.
func turned(d api.Delta) api.Delta {
	d.Had, d.Has = d.Has, d.Had
	d.Old, d.New = d.New, d.Old
	return d
}
