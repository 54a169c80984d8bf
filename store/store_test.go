package store

import (
	"math"
	"slices"
	"strconv"
	"testing"

	"weir/api"
	"weir/expect"
)

var (
	cpu  = of("cpu", "v")
	load = of("cpu", "w")
)

// The chapter's examples.
func TestExamples(t *testing.T) {
	s := fresh(t, 1, 2)
	write := func(want []api.Delta, e api.Errno, l ...api.Write) {
		t.Helper()
		d, err := s.Write(l)
		is(t, "Write", d, want)
		fails(t, "Write", err, e, expect.None)
	}
	write([]api.Delta{became(cpu, 10, nil, some(1))}, 0, put(cpu, 10, 1))
	write(nil, 0, put(cpu, 10, 1))
	write([]api.Delta{became(cpu, 10, some(1), some(2))}, 0, put(cpu, 10, 2))
	write(nil, api.ErrSeries, put(load, 1, 1))
	write(nil, api.ErrPoints, put(cpu, 1, 1), put(cpu, 2, 1), put(cpu, 3, 1))
	if l, err := s.Scan("cpu", nil, 0, 100); err != nil || len(l) != 1 || l[0].Sample != put(cpu, 10, 2).Sample {
		t.Errorf("Scan: %v, %v", l, err)
	}
	d, err := s.Delete("cpu", nil, 0, 10)
	is(t, "Delete(cpu, none, 0, 10)", d, []api.Delta(nil))
	fails(t, "Delete", err, 0, expect.None)
	d, err = s.Delete("cpu", nil, 0, 11)
	is(t, "Delete(cpu, none, 0, 11)", d, []api.Delta{became(cpu, 10, some(2), nil)})
	fails(t, "Delete", err, 0, expect.None)
	if series, points := s.Count(); series != 0 || points != 0 {
		t.Errorf("Count: %d, %d", series, points)
	}
	fails(t, "Apply", s.Apply([]api.Delta{became(cpu, 10, some(1), some(2))}), api.ErrRange, 0)
}

// P11.1
func TestNew(t *testing.T) {
	for _, c := range []struct {
		series, points int
		right          bool
	}{
		{0, 0, true}, {1, 0, true}, {0, 1, true}, {api.MaxSeries, api.MaxPoints, true}, {-1, 0, false}, {0, -1, false}, {api.MaxSeries + 1, 0, false}, {0, api.MaxPoints + 1, false},
		{math.MinInt, 1, false}, {1, math.MinInt, false}, {math.MaxInt, 1, false}, {1, math.MaxInt, false},
	} {
		s, err := New(c.series, c.points)
		loaded, loadErr := Load([]byte{0}, c.series, c.points)
		if c.right {
			fails(t, c, err, 0, expect.None)
			fails(t, c, loadErr, 0, expect.None)
			(&model{c.series, c.points, map[spot]api.Value{}}).agrees(t, s)
			continue
		}
		if s != nil || loaded != nil {
			t.Errorf("%v: a store beside an error", c)
		}
		fails(t, c, err, api.ErrRange, expect.None)
		fails(t, c, loadErr, api.ErrRange, expect.None)
	}
}

// P11.2: the first that applies.
func TestWriteFaults(t *testing.T) {
	bad := api.Sample{Value: api.Value{Kind: api.Over, N: 1}}
	nameless, untagged := of("", "v"), of("cpu", "v", "b", "1", "a", "1")
	for i, c := range []struct {
		l     []api.Write
		e     api.Errno
		index int
	}{
		{[]api.Write{put(nameless, 1, 1)}, api.ErrName, 0},
		{[]api.Write{put(of("cpu", "time"), 1, 1)}, api.ErrName, 0},
		{[]api.Write{put(untagged, 1, 1)}, api.ErrTags, 0},
		{[]api.Write{{Series: cpu, Sample: bad}}, api.ErrRange, 0},
		{[]api.Write{{Series: untagged, Sample: bad}}, api.ErrTags, 0},
		{[]api.Write{put(cpu, 1, 1), {Series: cpu, Sample: bad}, put(nameless, 1, 1)}, api.ErrRange, 1},
		{[]api.Write{put(load, 1, 1), put(load, 2, 1), put(load, 3, 1), put(nameless, 1, 1)}, api.ErrName, 3},
		{[]api.Write{put(cpu, 1, 1), {Series: cpu, Sample: bad}, put(cpu, 0, 1)}, api.ErrRange, 1},
		{[]api.Write{put(cpu, 1, 1), put(cpu, 2, 1), put(cpu, 3, 1)}, api.ErrPoints, expect.None},
		{[]api.Write{put(cpu, 1, 1), put(cpu, 2, 1), put(load, 3, 1)}, api.ErrSeries, expect.None},
		{[]api.Write{put(cpu, 1, 1), put(cpu, 2, 1), put(cpu, 1, 1), put(cpu, 2, 3)}, 0, expect.None},
	} {
		s := fresh(t, 1, 2)
		d, err := s.Write(c.l)
		if err != nil && len(d) != 0 {
			t.Errorf("%d: %v beside an error", i, d)
		}
		fails(t, i, err, c.e, c.index)
	}
	for i, v := range wrongValues {
		s := fresh(t, 1, 2)
		_, err := s.Write([]api.Write{put(cpu, 1, 1), {Series: cpu, Sample: api.Sample{Time: 1, Value: v}}})
		fails(t, i, err, api.ErrRange, 1)
	}
}

// P11.3: what a delta says of a sample that is not there plays no part.
func TestWhatDeltasSay(t *testing.T) {
	wrong, over := api.Value{Kind: 9, N: 9}, api.Value{Kind: api.Over}
	s := filled(t, put(cpu, 1, 1))
	fails(t, "Old where nothing was", s.Apply([]api.Delta{{Series: cpu, Time: 2, Old: wrong, Has: true, New: over}}), 0, expect.None)
	fails(t, "New where nothing is", s.Apply([]api.Delta{{Series: cpu, Time: 1, Had: true, Old: number(1), New: wrong}}), 0, expect.None)
	fails(t, "neither", s.Apply([]api.Delta{{Series: cpu, Time: 1, Old: number(1), New: wrong}}), 0, expect.None)
	fails(t, "the same", s.Apply([]api.Delta{{Series: cpu, Time: 2, Had: true, Has: true, Old: over, New: over}}), 0, expect.None)
	l, err := s.Scan("cpu", nil, 0, 100)
	is(t, "Scan", l, []api.Write{{Series: cpu, Sample: api.Sample{Time: 2, Value: over}}})
	fails(t, "Scan", err, 0, expect.None)
	fails(t, "Undo of what New is not", s.Undo([]api.Delta{{Series: cpu, Time: 1, Had: true, Old: number(1), New: wrong}}), 0, expect.None)
	if v, there := s.Get(cpu, 1); !there || v != number(1) {
		t.Errorf("%v, %t", v, there)
	}
}

// P11.3: delta by delta, forth and back, and of each the first that applies.
func TestDeltaFaults(t *testing.T) {
	nameless, bad := of("", "v"), api.Value{Kind: api.Void, N: 1}
	for i, c := range []struct {
		l           []api.Delta
		e           api.Errno
		index       int
		undo        api.Errno
		undoneIndex int
	}{
		{[]api.Delta{became(nameless, 1, nil, some(1))}, api.ErrName, 0, api.ErrName, 0},
		{[]api.Delta{became(nameless, 1, &bad, &bad)}, api.ErrName, 0, api.ErrName, 0},
		{[]api.Delta{became(cpu, 2, nil, &bad)}, api.ErrRange, 0, api.ErrRange, 0},
		{[]api.Delta{became(cpu, 1, &bad, some(2))}, api.ErrRange, 0, api.ErrRange, 0},
		{[]api.Delta{became(cpu, 1, &bad, some(1))}, api.ErrRange, 0, api.ErrRange, 0},
		{[]api.Delta{became(cpu, 1, some(1), &bad)}, api.ErrRange, 0, api.ErrRange, 0},
		{[]api.Delta{became(cpu, 1, some(2), some(1))}, api.ErrRange, 0, 0, expect.None},
		{[]api.Delta{became(cpu, 1, nil, some(1))}, api.ErrRange, 0, 0, expect.None},
		{[]api.Delta{became(cpu, 2, some(1), nil)}, api.ErrRange, 0, 0, expect.None},
		{[]api.Delta{became(cpu, 1, some(1), some(2))}, 0, expect.None, api.ErrRange, 0},
		{[]api.Delta{became(cpu, 1, some(1), some(2)), became(cpu, 1, some(2), some(3))}, 0, expect.None, api.ErrRange, 1},
		{[]api.Delta{became(cpu, 1, some(1), some(2)), became(cpu, 1, some(1), some(2))}, api.ErrRange, 1, api.ErrRange, 1},
		{[]api.Delta{became(nameless, 1, nil, nil), became(cpu, 1, some(3), some(2))}, api.ErrName, 0, api.ErrRange, 1},
		{[]api.Delta{became(cpu, 1, some(3), some(2)), became(nameless, 1, nil, nil)}, api.ErrRange, 0, api.ErrName, 1},
		{[]api.Delta{became(load, 1, nil, some(1)), became(load, 2, nil, some(1)), became(cpu, 1, some(3), nil)}, api.ErrRange, 2, api.ErrRange, 2},
		{[]api.Delta{became(load, 1, nil, some(1)), became(load, 2, nil, some(1))}, api.ErrSeries, expect.None, api.ErrRange, 1},
		{[]api.Delta{became(load, 1, some(1), nil), became(load, 2, some(1), nil)}, api.ErrRange, 0, api.ErrSeries, expect.None},
		{[]api.Delta{became(cpu, 0, nil, some(1)), became(cpu, 2, nil, some(1))}, api.ErrPoints, expect.None, api.ErrRange, 1},
		{[]api.Delta{became(cpu, 0, some(1), nil), became(cpu, 2, some(1), nil)}, api.ErrRange, 0, api.ErrPoints, expect.None},
	} {
		s := fresh(t, 1, 2)
		if _, err := s.Write([]api.Write{put(cpu, 1, 1)}); err != nil {
			t.Fatal(err)
		}
		other, ahead := s.Fork(), s.Save()
		fails(t, i, s.Apply(c.l), c.e, c.index)
		fails(t, i, other.Undo(c.l), c.undo, c.undoneIndex)
		if c.e != 0 {
			is(t, i, s.Save(), ahead)
		}
		if c.undo != 0 {
			is(t, i, other.Save(), ahead)
		}
	}
}

// P11.3: room is asked for at the end alone.
func TestRoomAtTheEnd(t *testing.T) {
	s := fresh(t, 1, 1)
	forth := []api.Delta{became(cpu, 1, nil, some(1)), became(load, 1, nil, some(1)), became(load, 2, nil, some(1)), became(load, 1, some(1), nil), became(cpu, 1, some(1), nil)}
	fails(t, "Apply", s.Apply(forth), 0, expect.None)
	if v, there := s.Get(load, 2); !there || v != number(1) {
		t.Errorf("%v, %t", v, there)
	}
	fails(t, "Undo", s.Undo(forth), 0, expect.None)
	if series, points := s.Count(); series != 0 || points != 0 {
		t.Errorf("%d, %d", series, points)
	}
	s = fresh(t, 1, 1)
	if _, err := s.Write([]api.Write{put(cpu, 1, 1)}); err != nil {
		t.Fatal(err)
	}
	if d, err := s.Write([]api.Write{put(cpu, 1, 2), put(cpu, 1, 1)}); err != nil || len(d) != 0 {
		t.Errorf("what is there already needs no room: %v, %v", d, err)
	}
}

// P11.4: the first that applies.
func TestRangeFaults(t *testing.T) {
	s := filled(t, put(cpu, 1, 1), put(cpu, math.MaxInt64, 2), put(of("mem", "v"), 1, 1))
	ahead := s.Save()
	for _, cond := range noConds() {
		for _, measure := range []string{"cpu", "none"} {
			d, err := s.Delete(measure, cond, 5, 1)
			l, scanErr := s.Scan(measure, cond, 5, 1)
			if len(d) != 0 || len(l) != 0 {
				t.Errorf("%v: %v, %v beside an error", cond, d, l)
			}
			fails(t, cond, err, api.ErrTree, expect.None)
			fails(t, cond, scanErr, api.ErrTree, expect.None)
			_, err = s.Delete(measure, cond, 1, 5)
			fails(t, cond, err, api.ErrTree, expect.None)
		}
	}
	for _, measure := range []string{"cpu", "none"} {
		_, err := s.Delete(measure, nil, 2, 1)
		fails(t, measure, err, api.ErrRange, expect.None)
		_, err = s.Scan(measure, nil, math.MaxInt64, math.MinInt64)
		fails(t, measure, err, api.ErrRange, expect.None)
	}
	for _, at := range someTimes {
		d, err := s.Delete("cpu", nil, at, at)
		is(t, "Delete of no times", d, []api.Delta(nil))
		fails(t, at, err, 0, expect.None)
	}
	is(t, "all of it", s.Save(), ahead)
}

// P11.4: a sample at the last of all times lies in no range; Drop takes it, too.
func TestLastOfAllTimes(t *testing.T) {
	s := filled(t, put(cpu, 1, 1), put(cpu, math.MaxInt64, 2))
	d, err := s.Delete("cpu", nil, math.MinInt64, math.MaxInt64)
	is(t, "Delete", d, []api.Delta{became(cpu, 1, some(1), nil)})
	fails(t, "Delete", err, 0, expect.None)
	is(t, "Drop", s.Drop("cpu"), []api.Delta{became(cpu, math.MaxInt64, some(2), nil)})
	is(t, "Measures", s.Measures(), []string(nil))
}

// line are the samples of a long row: three times a number.
func line(n int) []api.Write {
	var l []api.Write
	for i := range n {
		l = append(l, put(cpu, int64(i)*3, int64(i)))
	}
	return append(l, put(cpu, math.MaxInt64, -1))
}

// P11.3, P11.4, P11.7: where many samples go out of a long row, all the others stay.
func TestManyGo(t *testing.T) {
	chance := draw()
	for _, n := range []int{few - 1, few, few + 1, few + 2, 3 * few, 500} {
		m := &model{1, n + 1, map[spot]api.Value{}}
		s := fresh(t, 1, n+1)
		m.write(line(n))
		if _, err := s.Write(line(n)); err != nil {
			t.Fatal(err)
		}
		for _, share := range []int{1, 2, 10} {
			var l []api.Delta
			for _, w := range line(n) {
				if chance.Intn(share) == 0 {
					l = append(l, became(cpu, w.Sample.Time, &w.Sample.Value, nil))
				}
			}
			chance.Shuffle(len(l), func(i, j int) { l[i], l[j] = l[j], l[i] })
			fails(t, "Apply", s.Apply(l), 0, expect.None)
			m.steps(l, false)
			m.agrees(t, s)
			fails(t, "Undo", s.Undo(l), 0, expect.None)
			m.steps(l, true)
			m.agrees(t, s)
		}
		from, to := int64(n/5*3), int64(n/5*12)
		d, err := s.Delete("cpu", nil, from, to)
		want := m.delete("cpu", conds()[0], from, to)
		is(t, "Delete", d, want.deltas)
		fails(t, "Delete", err, 0, expect.None)
		m.agrees(t, s)
		is(t, "Drop", s.Drop("cpu"), m.drop("cpu").deltas)
		m.agrees(t, s)
	}
}

// P11.7: what many new samples leave that find no room.
func TestManyRefused(t *testing.T) {
	s := fresh(t, 2, 600)
	if _, err := s.Write(line(500)); err != nil {
		t.Fatal(err)
	}
	ahead := s.Save()
	var l []api.Write
	for i := range 300 {
		l = append(l, put(cpu, int64(i)*5, 7), put(load, int64(i), 7))
	}
	_, err := s.Write(l)
	fails(t, "Write", err, api.ErrPoints, expect.None)
	is(t, "what is left", s.Save(), ahead)
	_, err = s.Write(append(l, put(of("mem", "v"), 1, 1)))
	fails(t, "Write", err, api.ErrSeries, expect.None)
	is(t, "what is left", s.Save(), ahead)
	is(t, "Measures", s.Measures(), []string{"cpu"})
	is(t, "List", s.List("cpu"), []api.Series{cpu})
}

// P11.1: as many as there may be at all, and one more.
func TestGreatestRoom(t *testing.T) {
	s := fresh(t, api.MaxSeries, api.MaxPoints)
	var l []api.Write
	for i := range api.MaxPoints {
		l = append(l, put(of("m", "v"+strconv.Itoa(i%api.MaxSeries)), int64(i), int64(i)))
	}
	d, err := s.Write(l)
	if err != nil || len(d) != api.MaxPoints {
		t.Fatalf("%d deltas, %v", len(d), err)
	}
	_, err = s.Write([]api.Write{put(of("m", "v0"), -1, 1)})
	fails(t, "a point more", err, api.ErrPoints, expect.None)
	_, err = s.Write([]api.Write{put(of("m", "w"), -1, 1)})
	fails(t, "a series more", err, api.ErrSeries, expect.None)
	other, err := Load(s.Save(), api.MaxSeries, api.MaxPoints)
	if err != nil || !slices.Equal(other.Save(), s.Save()) {
		t.Errorf("Load: %v", err)
	}
	if d := s.Drop("m"); len(d) != api.MaxPoints || !slices.Equal(s.Save(), []byte{0}) {
		t.Errorf("%d deltas", len(d))
	}
}
