package store

import (
	"weir/api"
	"weir/block"
	"weir/fault"
	"weir/key"
	"weir/series"
	"weir/wire"
)

// Save is all of it, as bytes.
func (s *Store) Save() []byte {
	if s == nil {
		return nil
	}
	var w wire.Writer
	w.Uint(uint64(len(s.rows)))
	for _, measure := range s.Measures() {
		for _, x := range s.List(measure) {
			// A store has no more samples than a block may have, all of values that are some.
			packed, _ := block.Pack(all(s.row(x)))
			w.Text(key.Print(x))
			w.Raw(packed)
		}
	}
	return w.Bytes()
}

// Load reads one.
func Load(b []byte, series, points int) (*Store, error) {
	s, err := New(series, points)
	if err != nil {
		return nil, err
	}
	l := loader{Reader: wire.NewReader(b), store: s}
	for left := l.Uint(api.MaxSeries); left > 0 && l.Fault() == nil; left-- {
		l.one()
	}
	if err := l.Done(); err != nil {
		return nil, err
	}
	if err := s.room.refuses(l.series, l.points); err != nil {
		return nil, err
	}
	return s, nil
}

// loader reads series into a store, and counts what it read.
type loader struct {
	*wire.Reader
	store          *Store
	last           api.Series
	series, points int
}

// one reads a series.
func (l *loader) one() {
	at := l.At()
	x, err := key.Parse(l.Text(api.MaxFrame))
	if err != nil || key.Compare(l.last, x) >= 0 {
		l.Fail(fault.At(at, api.ErrForm))
	}
	l.last = x
	at = l.At()
	samples, err := block.Unpack(l.Raw(api.MaxFrame))
	if err != nil || len(samples) == 0 {
		l.Fail(fault.At(at, api.ErrForm))
	}
	if l.Fault() != nil {
		return
	}
	l.series++
	l.points += len(samples)
	// What finds no room is counted alone: bytes that are few may tell of very many samples.
	if l.store.room.refuses(l.series, l.points) == nil {
		l.keep(x, samples)
	}
}

// keep lays a series into the store that is not there.
func (l *loader) keep(x api.Series, samples []api.Sample) {
	row := series.New()
	for _, sample := range samples {
		row.Put(sample.Time, sample.Value)
	}
	l.store.rows[key.Print(x)] = row
	l.store.index.Add(x)
	l.store.points += len(samples)
}
