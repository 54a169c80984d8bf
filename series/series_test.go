package series

import (
	"maps"
	"math"
	"math/rand"
	"slices"
	"testing"

	"weir/api"
)

// draw is a source with a fixed seed, so that each run draws the same.
func draw() *rand.Rand { return rand.New(rand.NewSource(1970)) }

func number(n int64) api.Value { return api.Value{Kind: api.Int, N: n} }

// of is a series of these times, each with its number as the value.
func of(times ...int64) *Series {
	s := New()
	for i, t := range times {
		s.Put(t, number(int64(i)))
	}
	return s
}

func times(l []api.Sample) []int64 {
	var out []int64
	for _, x := range l {
		out = append(out, x.Time)
	}
	return out
}

// everything is all that a series has, by its neighbours: Range does not reach the last time.
func everything(s *Series) []api.Sample {
	var l []api.Sample
	for x, some := s.First(); some; x, some = s.Behind(x.Time + 1) {
		l = append(l, x)
		if x.Time == math.MaxInt64 {
			break
		}
	}
	return l
}

// The chapter's first example.
func TestFirstExample(t *testing.T) {
	a, b := number(1), number(2)
	s := New()
	if old, had := s.Put(10, a); had || old != (api.Value{}) {
		t.Errorf("Put 10 a: %v, %t", old, had)
	}
	if old, had := s.Put(10, b); !had || old != a {
		t.Errorf("Put 10 b: %v, %t", old, had)
	}
	if l := s.Range(10, 11); !slices.Equal(l, []api.Sample{{Time: 10, Value: b}}) {
		t.Errorf("Range(10, 11): %v", l)
	}
	if l := s.Range(11, 10); len(l) != 0 {
		t.Errorf("Range(11, 10): %v", l)
	}
	if x, some := s.Before(10); some || x != (api.Sample{}) {
		t.Errorf("Before(10): %v, %t", x, some)
	}
	if x, some := s.Behind(10); !some || x != (api.Sample{Time: 10, Value: b}) {
		t.Errorf("Behind(10): %v, %t", x, some)
	}
}

// The chapter's second example.
func TestSecondExample(t *testing.T) {
	s := New()
	s.Put(10, number(3))
	l := s.Load([]api.Sample{{Time: 10, Value: number(1)}, {Time: 20, Value: number(2)}, {Time: 10, Value: number(3)}})
	if len(l) != 1 || !sameDelta(l[0], api.Delta{Time: 20, Has: true, New: number(2)}) {
		t.Errorf("Load: %v", l)
	}
	if l := s.Delete(0, 15); !slices.Equal(l, []api.Sample{{Time: 10, Value: number(3)}}) || s.Len() != 1 {
		t.Errorf("Delete(0, 15): %v, %d are left", l, s.Len())
	}
}

func sameDelta(a, b api.Delta) bool {
	return a.Series.Measure == b.Series.Measure && len(a.Series.Tags) == len(b.Series.Tags) && a.Series.Field == b.Series.Field &&
		a.Time == b.Time && a.Had == b.Had && a.Has == b.Has && a.Old == b.Old && a.New == b.New
}

// model is what a series must be: a value a time, in no order.
type model map[int64]api.Value

// samples are those of which keep is true, by rising times.
func (m model) samples(keep func(int64) bool) []api.Sample {
	var l []api.Sample
	for t, v := range m {
		if keep(t) {
			l = append(l, api.Sample{Time: t, Value: v})
		}
	}
	slices.SortFunc(l, func(a, b api.Sample) int {
		if a.Time < b.Time {
			return -1
		}
		return 1
	})
	return l
}

// put is Put, and Cut where v is nil.
func (m model) put(t int64, v *api.Value) (api.Value, bool) {
	old, had := m[t]
	delete(m, t)
	if v != nil {
		m[t] = *v
	}
	return old, had
}

// between is Range.
func (m model) between(from, to int64) []api.Sample {
	return m.samples(func(t int64) bool { return t >= from && t < to })
}

// one is the first or the last of some samples, if there is one.
func one(l []api.Sample, last bool) (api.Sample, bool) {
	if len(l) == 0 {
		return api.Sample{}, false
	}
	if last {
		return l[len(l)-1], true
	}
	return l[0], true
}

// load is Load, by what was there and what is.
func (m model) load(l []api.Sample) []api.Delta {
	ahead := maps.Clone(m)
	for _, x := range l {
		m[x.Time] = x.Value
	}
	var deltas []api.Delta
	for _, x := range m.samples(func(int64) bool { return true }) {
		if old, had := ahead[x.Time]; !had || old != x.Value {
			deltas = append(deltas, api.Delta{Time: x.Time, Had: had, Old: old, Has: true, New: x.Value})
		}
	}
	return deltas
}

// agrees asks a series all that can be asked, and holds it against what it must be.
func (m model) agrees(t *testing.T, s *Series, asked []int64) {
	t.Helper()
	all := m.samples(func(int64) bool { return true })
	if s.Len() != len(m) || !slices.Equal(everything(s), all) {
		t.Fatalf("%d samples, not %d: %v", s.Len(), len(m), everything(s))
	}
	holds := func(what string, at int64, got api.Sample, some bool, among []api.Sample, last bool) {
		t.Helper()
		if want, there := one(among, last); got != want || some != there {
			t.Fatalf("%s(%d) of %v: %v, %t", what, at, all, got, some)
		}
	}
	x, some := s.First()
	holds("First", 0, x, some, all, false)
	x, some = s.Last()
	holds("Last", 0, x, some, all, true)
	for _, from := range asked {
		v, there := s.Get(from)
		if want, is := m[from]; v != want || there != is {
			t.Fatalf("Get(%d) of %v: %v, %t", from, all, v, there)
		}
		x, some = s.Before(from)
		holds("Before", from, x, some, m.samples(func(t int64) bool { return t < from }), true)
		x, some = s.Behind(from)
		holds("Behind", from, x, some, m.samples(func(t int64) bool { return t >= from }), false)
		for _, to := range asked {
			if l := s.Range(from, to); !slices.Equal(l, m.between(from, to)) {
				t.Fatalf("Range(%d, %d) of %v: %v", from, to, all, l)
			}
		}
	}
}

// step does one thing to a series and to what it must be, and holds both answers against each other.
func (m model) step(t *testing.T, s *Series, chance *rand.Rand, asked []int64) {
	t.Helper()
	time := func() int64 { return asked[chance.Intn(len(asked))] }
	value := func() api.Value { return api.Value{Kind: api.ValueKind(chance.Intn(5)), N: int64(chance.Intn(2))} }
	switch chance.Intn(8) {
	case 0, 1, 2:
		at, v := time(), value()
		old, had := s.Put(at, v)
		if want, there := m.put(at, &v); old != want || had != there {
			t.Fatalf("Put(%d): %v, %t", at, old, had)
		}
	case 3, 4:
		at := time()
		old, had := s.Cut(at)
		if want, there := m.put(at, nil); old != want || had != there {
			t.Fatalf("Cut(%d): %v, %t", at, old, had)
		}
	case 5:
		from, to := time(), time()
		want := m.between(from, to)
		if l := s.Delete(from, to); !slices.Equal(l, want) {
			t.Fatalf("Delete(%d, %d): %v, not %v", from, to, l, want)
		}
		for _, x := range want {
			delete(m, x.Time)
		}
	default:
		var l []api.Sample
		for range chance.Intn(12) {
			l = append(l, api.Sample{Time: time(), Value: value()})
		}
		got, want := s.Load(l), m.load(l)
		if !slices.EqualFunc(got, want, sameDelta) {
			t.Fatalf("Load of %v: %v, not %v", l, got, want)
		}
	}
}

// P8.1 to P8.4, P8.6: whatever is done, in whatever order.
func TestAgainstModel(t *testing.T) {
	chance := draw()
	asked := []int64{0, 1, -1, 2, 5, 100, -100, 1 << 40, math.MaxInt64, math.MaxInt64 - 1, math.MinInt64, math.MinInt64 + 1}
	for range 300 {
		s, m := New(), model{}
		m.agrees(t, s, asked)
		for range 60 {
			m.step(t, s, chance, asked)
			m.agrees(t, s, asked)
		}
	}
}

// P4: what becomes of one of the two changes nothing of the other one.
func TestFork(t *testing.T) {
	chance := draw()
	asked := []int64{0, 1, 2, 3, 4, 5, 6, 7, 8, 9}
	for range 300 {
		s, m := New(), model{}
		for range 30 {
			m.step(t, s, chance, asked)
		}
		other, its := s.Fork(), maps.Clone(m)
		its.agrees(t, other, asked)
		for range 20 {
			m.step(t, s, chance, asked)
			its.agrees(t, other, asked)
			its.step(t, other, chance, asked)
			m.agrees(t, s, asked)
		}
	}
	if s := New().Fork(); s == nil || s.Len() != 0 {
		t.Error("of an empty one")
	}
}

// P1, P8.1, P8.3
func TestNil(t *testing.T) {
	var s *Series
	if s.Fork() != nil {
		t.Error("Fork")
	}
	for what, ask := range map[string]func() (api.Value, bool){
		"Put": func() (api.Value, bool) { return s.Put(1, number(1)) },
		"Cut": func() (api.Value, bool) { return s.Cut(1) },
		"Get": func() (api.Value, bool) { return s.Get(1) },
	} {
		if v, some := ask(); some || v != (api.Value{}) {
			t.Errorf("%s: %v, %t", what, v, some)
		}
	}
	for what, ask := range map[string]func() (api.Sample, bool){
		"First":  s.First,
		"Last":   s.Last,
		"Before": func() (api.Sample, bool) { return s.Before(1) },
		"Behind": func() (api.Sample, bool) { return s.Behind(1) },
	} {
		if x, some := ask(); some || x != (api.Sample{}) {
			t.Errorf("%s: %v, %t", what, x, some)
		}
	}
	if s.Len() != 0 || len(s.Range(0, 9)) != 0 || len(s.Delete(0, 9)) != 0 || len(s.Load([]api.Sample{{Time: 1}})) != 0 {
		t.Error("Len, Range, Delete or Load")
	}
}

// P8.2: from the first time on, ahead of the second one.
func TestEdgesOfRanges(t *testing.T) {
	for _, c := range []struct {
		from, to int64
		want     []int64
	}{
		{10, 30, []int64{10, 20}}, {10, 31, []int64{10, 20, 30}}, {9, 11, []int64{10}}, {11, 20, nil}, {10, 10, nil},
		{30, 10, nil}, {31, math.MaxInt64, nil}, {math.MinInt64, math.MaxInt64, []int64{math.MinInt64, 10, 20, 30}},
		{math.MaxInt64, math.MaxInt64, nil}, {math.MaxInt64, math.MinInt64, nil}, {math.MinInt64, math.MinInt64 + 1, []int64{math.MinInt64}},
	} {
		s := of(30, 10, math.MaxInt64, 20, math.MinInt64)
		if l := s.Range(c.from, c.to); !slices.Equal(times(l), c.want) {
			t.Errorf("Range(%d, %d): %v", c.from, c.to, l)
		}
		if l := s.Delete(c.from, c.to); !slices.Equal(times(l), c.want) || s.Len() != 5-len(c.want) {
			t.Errorf("Delete(%d, %d): %v, %d are left", c.from, c.to, l, s.Len())
		}
		if l := s.Delete(c.from, c.to); len(l) != 0 {
			t.Errorf("Delete(%d, %d) again: %v", c.from, c.to, l)
		}
	}
}

// P8.3: what stands twice in a row counts as it ends, held against what was there ahead.
func TestLoad(t *testing.T) {
	s := of(0, 10, 20)
	l := s.Load([]api.Sample{
		{Time: 30, Value: number(7)}, {Time: 10, Value: number(8)}, {Time: 0, Value: number(9)}, {Time: 10, Value: number(1)},
		{Time: -5, Value: api.Value{Kind: api.Void}}, {Time: 20, Value: api.Value{Kind: api.Over, N: 2}}, {Time: 30, Value: api.Value{}},
	})
	want := []api.Delta{
		{Time: -5, Has: true, New: api.Value{Kind: api.Void}},
		{Time: 0, Had: true, Old: number(0), Has: true, New: number(9)},
		{Time: 20, Had: true, Old: number(2), Has: true, New: api.Value{Kind: api.Over, N: 2}},
		{Time: 30, Has: true},
	}
	if !slices.EqualFunc(l, want, sameDelta) {
		t.Errorf("%v", l)
	}
	if !slices.Equal(times(everything(s)), []int64{-5, 0, 10, 20, 30}) {
		t.Errorf("%v", everything(s))
	}
	if len(s.Load(nil)) != 0 || len(s.Load([]api.Sample{})) != 0 || len(s.Load(everything(s))) != 0 || s.Len() != 5 {
		t.Error("nothing that is new")
	}
}

// P3: what is handed in stays as it is and is not kept; what is answered is the caller's.
func TestKeepsNothing(t *testing.T) {
	all := []api.Sample{{Time: 3, Value: number(3)}, {Time: 1, Value: number(1)}, {Time: 2, Value: number(2)}, {Time: 9, Value: number(9)}}
	handed := slices.Clone(all)
	s := New()
	s.Load(all[:3])
	if !slices.Equal(all, handed) {
		t.Errorf("handed in: %v", all)
	}
	clear(all)
	wipe := func(l []api.Sample) { clear(l[:cap(l)]) }
	wipe(s.Range(0, 3))
	wipe(s.Range(1, 9))
	if !slices.Equal(times(everything(s)), []int64{1, 2, 3}) {
		t.Errorf("behind Range: %v", everything(s))
	}
	l := s.Delete(2, 3)
	s.Put(2, number(5))
	s.Put(4, number(5))
	if !slices.Equal(l, []api.Sample{{Time: 2, Value: number(2)}}) {
		t.Errorf("what Delete told: %v", l)
	}
	wipe(l)
	wipe(s.Delete(3, 9))
	s.Put(3, number(6))
	if !slices.Equal(everything(s), []api.Sample{{Time: 1, Value: number(1)}, {Time: 2, Value: number(5)}, {Time: 3, Value: number(6)}}) {
		t.Errorf("behind Delete: %v", everything(s))
	}
}

// P8.5
func TestPutOfRange(t *testing.T) {
	chance := draw()
	for range 200 {
		s, again := New(), New()
		for range chance.Intn(50) {
			s.Put(int64(chance.Intn(60)-30), number(chance.Int63()))
		}
		for _, x := range s.Range(math.MinInt64, math.MaxInt64) {
			again.Put(x.Time, x.Value)
		}
		if !slices.Equal(everything(s), everything(again)) {
			t.Fatalf("%v, %v", everything(s), everything(again))
		}
	}
}

// Many samples are loaded in a while, wherever they lie, and all of them are found.
func TestLoadOfMany(t *testing.T) {
	const rows, n = 50, 10000
	chance := draw()
	s := New()
	for i := range rows {
		var l []api.Sample
		for j := range n {
			l = append(l, api.Sample{Time: int64(j*rows + i - n), Value: number(int64(i))})
		}
		chance.Shuffle(n, func(i, j int) { l[i], l[j] = l[j], l[i] })
		if got := len(s.Load(l)); got != n {
			t.Fatalf("row %d: %d deltas", i, got)
		}
	}
	for i, x := range s.Range(math.MinInt64, math.MaxInt64) {
		if x.Time != int64(i-n) || x.Value != number(int64(i%rows)) {
			t.Fatalf("number %d: %v", i, x)
		}
	}
	if s.Len() != rows*n {
		t.Errorf("%d samples", s.Len())
	}
}

// What has gone takes no room for long.
func TestRoomIsGivenBack(t *testing.T) {
	for what, take := range map[string]func(s *Series){
		"the first ones": func(s *Series) { s.Delete(0, 99990) },
		"the last ones":  func(s *Series) { s.Delete(10, 100000) },
		"one by one": func(s *Series) {
			for i := range int64(99990) {
				s.Cut(99999 - i)
			}
		},
	} {
		s := New()
		for i := range int64(100000) {
			s.Put(i, number(i))
		}
		take(s)
		if s.Len() != 10 || cap(s.samples) > 100 {
			t.Errorf("%s: %d samples in room for %d", what, s.Len(), cap(s.samples))
		}
		if first, _ := s.First(); first.Value != number(first.Time) {
			t.Errorf("%s: %v", what, first)
		}
	}
}
