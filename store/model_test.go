package store

import (
	"cmp"
	"maps"
	"slices"
	"testing"

	"weir/api"
	"weir/block"
	"weir/expect"
	"weir/fault"
	"weir/key"
	"weir/wire"
)

// spot is a series, by its key, and a time.
type spot struct {
	name string
	time int64
}

// model is what a store must be: a value a spot, in no order, and its room.
type model struct {
	series, points int
	at             map[spot]api.Value
}

// outcome is what a call that changes something must answer.
type outcome struct {
	deltas []api.Delta
	e      api.Errno
	index  int
}

func refused(e api.Errno, index int) outcome { return outcome{nil, e, index} }

func in(s api.Series, t int64) spot { return spot{key.Print(s), t} }

func seriesOf(name string) api.Series {
	s, err := key.Parse(name)
	if err != nil {
		panic(name)
	}
	return s
}

func isValue(v api.Value) bool {
	return v.Kind == api.Int || v == api.Value{Kind: api.Over} || v == api.Value{Kind: api.Void}
}

// spots are those of one row of samples or of two, in order.
func spots(rows ...map[spot]api.Value) []spot {
	var l []spot
	for _, at := range rows {
		l = slices.AppendSeq(l, maps.Keys(at))
	}
	slices.SortFunc(l, func(a, b spot) int {
		return cmp.Or(key.Compare(seriesOf(a.name), seriesOf(b.name)), cmp.Compare(a.time, b.time))
	})
	return slices.Compact(l)
}

// count is how many series and samples there are.
func count(at map[spot]api.Value) (int, int) {
	names := map[string]bool{}
	for x := range at {
		names[x.name] = true
	}
	return len(names), len(at)
}

// become lets other samples be there, if there is room: the deltas.
func (m *model) become(now map[spot]api.Value) outcome {
	series, points := count(now)
	switch {
	case series > m.series:
		return refused(api.ErrSeries, expect.None)
	case points > m.points:
		return refused(api.ErrPoints, expect.None)
	}
	out := outcome{index: expect.None}
	for _, x := range spots(m.at, now) {
		d := api.Delta{Series: seriesOf(x.name), Time: x.time}
		d.Old, d.Had = m.at[x]
		d.New, d.Has = now[x]
		if d.Had != d.Has || d.Old != d.New {
			out.deltas = append(out.deltas, d)
		}
	}
	m.at = now
	return out
}

func (m *model) write(l []api.Write) outcome {
	now := maps.Clone(m.at)
	for i, w := range l {
		if err := key.Right(w.Series); err != nil {
			return refused(fault.Code(err), i)
		}
		if !isValue(w.Sample.Value) {
			return refused(api.ErrRange, i)
		}
		now[in(w.Series, w.Sample.Time)] = w.Sample.Value
	}
	return m.become(now)
}

// steps does deltas in the order in which they are told, forth or back.
func (m *model) steps(l []api.Delta, back bool) outcome {
	now := maps.Clone(m.at)
	for k := range l {
		i := k
		if back {
			i = len(l) - 1 - k
		}
		d := l[i]
		if err := key.Right(d.Series); err != nil {
			return refused(fault.Code(err), i)
		}
		if d.Had && !isValue(d.Old) || d.Has && !isValue(d.New) {
			return refused(api.ErrRange, i)
		}
		from, had, to, has := d.Old, d.Had, d.New, d.Has
		if back {
			from, had, to, has = to, has, from, had
		}
		x := in(d.Series, d.Time)
		if v, there := now[x]; there != had || had && v != from {
			return refused(api.ErrRange, i)
		}
		delete(now, x)
		if has {
			now[x] = to
		}
	}
	out := m.become(now)
	out.deltas = nil
	return out
}

// found are the spots of a measure, of a condition and of a range.
func (m *model) found(measure string, c cond, from, to int64) []spot {
	return slices.DeleteFunc(spots(m.at), func(x spot) bool {
		s := seriesOf(x.name)
		return s.Measure != measure || !c.holds(key.Value(s.Tags, "host"), key.Value(s.Tags, "zone")) || x.time < from || x.time >= to
	})
}

// without takes spots away.
func (m *model) without(l []spot) outcome {
	now := maps.Clone(m.at)
	for _, x := range l {
		delete(now, x)
	}
	return m.become(now)
}

func (m *model) delete(measure string, c cond, from, to int64) outcome {
	if from > to {
		return refused(api.ErrRange, expect.None)
	}
	return m.without(m.found(measure, c, from, to))
}

func (m *model) drop(measure string) outcome {
	now := maps.Clone(m.at)
	maps.DeleteFunc(now, func(x spot, _ api.Value) bool { return seriesOf(x.name).Measure == measure })
	return m.become(now)
}

// writes are the samples at some spots.
func (m *model) writes(l []spot) []api.Write {
	var out []api.Write
	for _, x := range l {
		out = append(out, api.Write{Series: seriesOf(x.name), Sample: api.Sample{Time: x.time, Value: m.at[x]}})
	}
	return out
}

// bytes are those of a store, as the chapter has them.
func (m *model) bytes() []byte {
	samples := map[string][]api.Sample{}
	var names []string
	for _, x := range spots(m.at) {
		if samples[x.name] == nil {
			names = append(names, x.name)
		}
		samples[x.name] = append(samples[x.name], api.Sample{Time: x.time, Value: m.at[x]})
	}
	var w wire.Writer
	w.Uint(uint64(len(names)))
	for _, name := range names {
		w.Text(name)
		b, _ := block.Pack(samples[name])
		w.Raw(b)
	}
	return w.Bytes()
}

// agrees asks a store all that can be asked, and holds it against what it must be.
func (m *model) agrees(t *testing.T, s *Store) {
	t.Helper()
	series, points := s.Count()
	wantSeries, wantPoints := count(m.at)
	is(t, "Count", []int{series, points}, []int{wantSeries, wantPoints})
	is(t, "Save", s.Save(), m.bytes())
	lists := map[string][]api.Series{}
	for _, x := range spots(m.at) {
		one := seriesOf(x.name)
		l := lists[one.Measure]
		if len(l) == 0 || key.Compare(l[len(l)-1], one) != 0 {
			lists[one.Measure] = append(l, one)
		}
	}
	is(t, "Measures", s.Measures(), slices.Sorted(maps.Keys(lists)))
	for _, measure := range []string{"c", "cpu", "cpu ", "mem", "", "none"} {
		is(t, "List "+measure, s.List(measure), lists[measure])
	}
	for _, one := range append(slices.Clone(someSeries), wrongSeries...) {
		for _, at := range someTimes {
			v, there := s.Get(one, at)
			want, is := m.at[in(one, at)]
			if v != want || there != is {
				t.Fatalf("Get(%v, %d): %v, %t", one, at, v, there)
			}
		}
	}
}

// scans holds Scan against what it must tell.
func (m *model) scans(t *testing.T, s *Store, measure string, c cond, from, to int64) {
	t.Helper()
	l, err := s.Scan(measure, c.nodes, from, to)
	if from > to {
		is(t, "Scan beside an error", l, []api.Write(nil))
		fails(t, "Scan", err, api.ErrRange, expect.None)
		return
	}
	fails(t, "Scan", err, 0, expect.None)
	is(t, "Scan of "+measure, l, m.writes(m.found(measure, c, from, to)))
}
