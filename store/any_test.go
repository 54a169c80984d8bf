package store

import (
	"math/rand"
	"slices"
	"testing"

	"weir/api"
	"weir/batch"
	"weir/expect"
)

func someWrite(chance *rand.Rand, odd bool) api.Write {
	w := api.Write{Series: pick(chance, someSeries), Sample: api.Sample{Time: pick(chance, someTimes), Value: pick(chance, someValues)}}
	if odd && chance.Intn(8) == 0 {
		w.Series = pick(chance, wrongSeries)
	}
	if odd && chance.Intn(8) == 0 {
		w.Sample.Value = pick(chance, wrongValues)
	}
	return w
}

func someWrites(chance *rand.Rand) []api.Write {
	var l []api.Write
	odd := chance.Intn(3) == 0
	for range chance.Intn(7) {
		l = append(l, someWrite(chance, odd))
	}
	return l
}

// someDeltas draws deltas that could be done one behind the other, forth or
// back; odd ones may be wrong in each way.
func someDeltas(chance *rand.Rand, m *model, back bool) []api.Delta {
	now := map[spot]api.Value{}
	for x, v := range m.at {
		now[x] = v
	}
	var l []api.Delta
	odd := chance.Intn(3) == 0
	for range chance.Intn(7) {
		d := api.Delta{Series: pick(chance, someSeries), Time: pick(chance, someTimes)}
		if known := spots(now); len(known) > 0 && chance.Intn(2) == 0 {
			x := pick(chance, known)
			d.Series, d.Time = seriesOf(x.name), x.time
		}
		x := in(d.Series, d.Time)
		d.Old, d.Had = now[x]
		delete(now, x)
		if chance.Intn(2) == 0 {
			d.Has, d.New = true, pick(chance, someValues)
			now[x] = d.New
		}
		if odd && chance.Intn(4) == 0 {
			d = spoilt(chance, d)
		}
		if back {
			d.Had, d.Old, d.Has, d.New = d.Has, d.New, d.Had, d.Old
		}
		l = append(l, d)
	}
	if back {
		slices.Reverse(l)
	}
	return l
}

// spoilt is a delta of which something is another thing: not each of them is wrong.
func spoilt(chance *rand.Rand, d api.Delta) api.Delta {
	switch chance.Intn(6) {
	case 0:
		d.Series = pick(chance, wrongSeries)
	case 1:
		d.New = pick(chance, wrongValues)
	case 2:
		d.Old = pick(chance, wrongValues)
	case 3:
		d.Old = pick(chance, someValues)
	case 4:
		d.Had = !d.Had
	case 5:
		d.Has = !d.Has
	}
	return d
}

// step makes one call of a store and of what it must be, and holds both
// answers against each other: the deltas, and whether the call was done.
func (m *model) step(t *testing.T, s *Store, chance *rand.Rand) ([]api.Delta, bool) {
	t.Helper()
	measure := pick(chance, []string{"cpu", "cpu", "cpu ", "c", "mem", "", "none"})
	c := pick(chance, conds())
	from, to := pick(chance, someTimes), pick(chance, someTimes)
	if from > to && chance.Intn(4) > 0 {
		from, to = to, from
	}
	var want outcome
	var got []api.Delta
	var err error
	var what string
	switch chance.Intn(8) {
	case 0, 1, 2:
		l := someWrites(chance)
		got, err = s.Write(l)
		what, want = "Write", m.write(l)
	case 3, 4:
		l := someDeltas(chance, m, false)
		err = s.Apply(l)
		what, want = "Apply", m.steps(l, false)
	case 5:
		l := someDeltas(chance, m, true)
		err = s.Undo(l)
		what, want = "Undo", m.steps(l, true)
	case 6:
		m.scans(t, s, measure, c, from, to)
		got, err = s.Delete(measure, c.nodes, from, to)
		what, want = "Delete", m.delete(measure, c, from, to)
	case 7:
		if chance.Intn(4) == 0 {
			got = s.Drop(measure)
			what, want = "Drop", m.drop(measure)
		}
		want.index = expect.None
	}
	is(t, what, got, want.deltas)
	fails(t, what, err, want.e, want.index)
	return got, err == nil
}

// P11.2 to P11.8: whatever the calls, each answers what it must, and leaves what it must.
func TestAnyCalls(t *testing.T) {
	chance := draw()
	done, refusals := 0, 0
	for _, room := range [][2]int{{0, 0}, {0, 5}, {3, 0}, {1, 2}, {2, 5}, {4, 9}, {6, 20}, {api.MaxSeries, api.MaxPoints}} {
		for range 12 {
			s := fresh(t, room[0], room[1])
			m := &model{room[0], room[1], map[spot]api.Value{}}
			for range 60 {
				ahead := s.Save()
				deltas, ok := m.step(t, s, chance)
				m.agrees(t, s)
				if !ok {
					refusals++
					is(t, "what a refused call leaves", s.Save(), ahead)
					continue
				}
				done++
				backAndForth(t, s, deltas, ahead)
			}
		}
	}
	if done < 1000 || refusals < 1000 {
		t.Errorf("%d calls were done, %d refused", done, refusals)
	}
}

// backAndForth holds P11.8 of the deltas that a call has told.
func backAndForth(t *testing.T, s *Store, deltas []api.Delta, ahead []byte) {
	t.Helper()
	if len(deltas) == 0 {
		return
	}
	other, behind := s.Fork(), s.Save()
	fails(t, "Undo", other.Undo(deltas), 0, expect.None)
	is(t, "behind Undo", other.Save(), ahead)
	fails(t, "Apply", other.Apply(deltas), 0, expect.None)
	is(t, "behind Apply", other.Save(), behind)
	fails(t, "Apply twice", other.Apply(deltas), api.ErrRange, 0)
	fails(t, "Undo", other.Undo(deltas), 0, expect.None)
	fails(t, "Undo twice", other.Undo(deltas), api.ErrRange, len(deltas)-1)
	is(t, "behind all", other.Save(), ahead)
	is(t, "the store itself", s.Save(), behind)
}

// P11.9
func TestOneBehindTheOther(t *testing.T) {
	chance := draw()
	for range 500 {
		var a, b []api.Write
		for range chance.Intn(12) {
			a = append(a, someWrite(chance, false))
		}
		for range chance.Intn(12) {
			b = append(b, someWrite(chance, false))
		}
		two := filled(t, a...)
		if _, err := two.Write(b); err != nil {
			t.Fatal(err)
		}
		is(t, "both at once", filled(t, batch.Merge(a, b)...).Save(), two.Save())
		is(t, "in order", filled(t, batch.Order(a)...).Save(), filled(t, a...).Save())
	}
}

// P11.11, P11.4: a condition leaves out just those of which it does not hold.
func TestScan(t *testing.T) {
	chance := draw()
	for range 40 {
		m := &model{api.MaxSeries, api.MaxPoints, map[spot]api.Value{}}
		var l []api.Write
		for range chance.Intn(60) {
			l = append(l, someWrite(chance, false))
		}
		m.write(l)
		s := filled(t, l...)
		for _, c := range conds() {
			for _, measure := range []string{"cpu", "mem", "c", "none"} {
				for range 6 {
					m.scans(t, s, measure, c, pick(chance, someTimes), pick(chance, someTimes))
				}
			}
		}
		m.agrees(t, s)
	}
}
