package store

import (
	"maps"
	"slices"

	"weir/api"
	"weir/fault"
	"weir/key"
	"weir/series"
)

// Apply does deltas, all or none.
func (s *Store) Apply(l []api.Delta) error {
	if s == nil {
		return fault.New(api.ErrNil)
	}
	ahead := draft{store: s, sheets: map[string]sheet{}}
	for i, d := range l {
		if err := ahead.do(d); err != nil {
			return fault.In(i, err)
		}
	}
	return s.change(ahead.deltas())
}

// Undo undoes deltas that were done last.
func (s *Store) Undo(l []api.Delta) error {
	if s == nil {
		return fault.New(api.ErrNil)
	}
	ahead := draft{store: s, sheets: map[string]sheet{}}
	for i, d := range slices.Backward(l) {
		if err := ahead.do(turned(d)); err != nil {
			return fault.In(i, err)
		}
	}
	return s.change(ahead.deltas())
}

// draft is what deltas, done one behind the other, would leave of a store: it
// tells of each sample but its beginning and its end, however often it changes.
type draft struct {
	store  *Store
	sheets map[string]sheet // by the series' keys
}

// sheet is what would become of a series, by times, and what is there now.
type sheet struct {
	series api.Series
	row    *series.Series
	became map[int64]api.Delta
}

// do is one delta more, if it is right, and speaks of what would be there.
func (d draft) do(next api.Delta) error {
	if !next.Has {
		next.New = api.Value{}
	}
	if err := right(next.Series, next.New); err != nil {
		return err
	}
	on := d.sheet(next.Series)
	now, known := on.became[next.Time]
	if !known {
		now = api.Delta{Time: next.Time}
		now.Old, now.Had = on.row.Get(next.Time)
		now.New, now.Has = now.Old, now.Had
	}
	// An Old that is no value is not what is there, whatever that is.
	if now.Has != next.Had || next.Had && now.New != next.Old {
		return fault.New(api.ErrRange)
	}
	now.Has, now.New = next.Has, next.New
	on.became[next.Time] = now
	return nil
}

func (d draft) sheet(x api.Series) sheet {
	name := key.Print(x)
	on, known := d.sheets[name]
	if !known {
		on = sheet{x, d.store.rows[name], map[int64]api.Delta{}}
		d.sheets[name] = on
	}
	return on
}

// deltas are those of all the samples that would be others, series by series, by rising times.
func (d draft) deltas() []api.Delta {
	var l []api.Delta
	for _, name := range slices.Sorted(maps.Keys(d.sheets)) {
		on := d.sheets[name]
		for _, t := range slices.Sorted(maps.Keys(on.became)) {
			became := on.became[t]
			became.Series = on.series
			if !same(became) {
				l = append(l, became)
			}
		}
	}
	return l
}
