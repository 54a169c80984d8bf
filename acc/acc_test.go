package acc

import (
	"math"
	"math/big"
	"slices"
	"strconv"
	"testing"

	"weir/api"
	"weir/sample"
)

func told(n int64) api.Told {
	return api.Told{Some: true, Value: api.Value{Kind: api.Int, N: n}}
}

// The chapter's first example.
func TestFirstExample(t *testing.T) {
	a := begin(t, api.Max)
	fails(t, "Add", a.Add("a", 1, 5), 0)
	fails(t, "Add", a.Add("a", 2, 9), 0)
	fails(t, "Remove", a.Remove("a", 2), 0)
	if s := a.Slot(); s != (api.Slot{Some: true, N: 5}) || a.Value() != told(5) {
		t.Errorf("Max: %v, %v", s, a.Value())
	}
	a = begin(t, api.TotalOf)
	fails(t, "Add", a.Add("a", 1, 1<<62), 0)
	fails(t, "Add", a.Add("a", 2, 1<<62), 0)
	if s := a.Slot(); s != (api.Slot{Some: true, Sum: api.Sum{Lo: 1 << 63}}) {
		t.Errorf("TotalOf: %v", s)
	}
	if v := a.Value(); v != (api.Told{Some: true, Value: api.Value{Kind: api.Over}}) {
		t.Errorf("TotalOf: %v", v)
	}
	a = begin(t, api.Count)
	if a.Slot() != (api.Slot{}) || a.Value() != (api.Told{}) {
		t.Errorf("Count: %v, %v", a.Slot(), a.Value())
	}
}

// The chapter's second example.
func TestSecondExample(t *testing.T) {
	for f, want := range map[api.Func]int64{api.First: 2, api.Last: 1} {
		a := begin(t, f)
		fails(t, "Add", a.Add("cpu,host=b v", 10, 1), 0)
		fails(t, "Add", a.Add("cpu,host=a v", 10, 2), 0)
		if a.Value() != told(want) {
			t.Errorf("function %d: %v, not %d", f, a.Value(), want)
		}
	}
	for _, a := range begun(t) {
		fails(t, "Add", a.Add("a", 1, 5), 0)
		fails(t, "Add", a.Add("a", 1, 5), api.ErrKnown)
	}
}

func TestNew(t *testing.T) {
	for f := range 256 {
		a, err := New(api.Func(f))
		if !slices.Contains(all, api.Func(f)) {
			fails(t, f, err, api.ErrRange)
			if a != nil {
				t.Errorf("New(%d): %v", f, a)
			}
			continue
		}
		fails(t, f, err, 0)
		if a.Func() != api.Func(f) || a.Fork().Func() != api.Func(f) {
			t.Errorf("New(%d): function %d, its fork's %d", f, a.Func(), a.Fork().Func())
		}
		model{}.agrees(t, "New", a)
		model{}.agrees(t, "Fork", a.Fork())
		fails(t, f, a.Remove("", 0), api.ErrNone)
		model{}.agrees(t, "Remove", a)
	}
}

func TestNil(t *testing.T) {
	var a *Acc
	fails(t, "Add", a.Add("a", 1, 5), api.ErrNil)
	fails(t, "Remove", a.Remove("a", 1), api.ErrNil)
	if a.Fork() != nil || a.Func() != 0 || a.Len() != 0 || a.Slot() != (api.Slot{}) || a.Value() != (api.Told{}) {
		t.Errorf("%v, %d, %d, %v, %v", a.Fork(), a.Func(), a.Len(), a.Slot(), a.Value())
	}
}

// A call that is refused changes nothing, though it brings another number.
func TestRefused(t *testing.T) {
	for _, number := range []int64{5, 4, 6, 0, math.MinInt64, math.MaxInt64} {
		for _, a := range begun(t) {
			m := model{{"cpu v", 1, 5}, {"cpu v", 2, 5}, {"a", 1, 5}}
			for _, x := range m {
				fails(t, x, a.Add(x.series, x.time, x.n), 0)
			}
			for _, x := range m {
				fails(t, x, a.Add(x.series, x.time, number), api.ErrKnown)
			}
			for _, x := range []one{{"cpu v", 0, 0}, {"cpu v", 3, 0}, {"cpu w", 1, 0}, {"", 1, 0}, {"a", 2, 0}, {"1 a", 1, 0}} {
				fails(t, x, a.Remove(x.series, x.time), api.ErrNone)
			}
			m.agrees(t, number, a)
		}
	}
}

// What accumulators tell is what the numbers in them say, whatever the calls were.
func TestAnyCalls(t *testing.T) {
	d := draw()
	for range 100 {
		l, m := begun(t), model{}
		for range 150 {
			step(t, d, l, &m)
			for _, a := range l {
				m.agrees(t, "a step", a)
			}
		}
	}
}

// Of several at one time the smallest name is the first one, and the greatest the last one.
func TestNames(t *testing.T) {
	for _, a := range someSeries {
		for _, b := range someSeries {
			if a == b {
				continue
			}
			if smaller(a, b) == smaller(b, a) {
				t.Fatalf("%.80q, %.80q: none is smaller", a, b)
			}
			for _, at := range []int64{0, -5, math.MinInt64, math.MaxInt64} {
				m := model{{a, at, 1}, {b, at, 2}}
				for _, f := range []api.Func{api.First, api.Last} {
					acc := begin(t, f)
					for _, x := range m {
						fails(t, x, acc.Add(x.series, x.time, x.n), 0)
					}
					m.agrees(t, []string{a, b}, acc)
				}
			}
		}
	}
}

// Short names of few letters: all marks of keys, what is escaped, and bytes that no name has.
func TestShortNames(t *testing.T) {
	d := draw()
	letters := []string{"a", "b", ",", "=", " ", `\,`, `\ `, `\=`, `\\`, "!", "\x00", "\x01", "\x02", "\x03", "~"}
	some := func() string {
		name := sample.One(d, "", "a", "a", `a\,`, "a!", "b")
		for range d(3) {
			name += "," + sample.One(d, "a", `a\=`, "b", "c") + "=" + sample.One(d, "x", `x\ `, `\,`, "x!", "y")
		}
		name += sample.One(d, " ", " ", " ", "") + sample.One(d, "v", "vv", `v\ `, "")
		for range d(12) / 10 {
			name += sample.One(d, letters...)
		}
		return name
	}
	for range 4000 {
		m := model{}
		l := []*Acc{begin(t, api.First), begin(t, api.Last)}
		for n := range int64(2 + d(4)) {
			x := one{some(), 7, n}
			no := m.add(x)
			for _, a := range l {
				fails(t, x, a.Add(x.series, x.time, x.n), no)
			}
		}
		for _, a := range l {
			m.agrees(t, "short names", a)
		}
	}
}

// One series has a number for each time, and one time a number for each series.
func TestPlaces(t *testing.T) {
	for _, a := range begun(t) {
		m := model{}
		for i, series := range someSeries {
			for j, at := range []int64{0, 1, 11, -1, 111, math.MinInt64, math.MaxInt64} {
				x := one{series, at, int64(i*7 - j*j)}
				fails(t, x, a.Add(x.series, x.time, x.n), m.add(x))
			}
		}
		m.agrees(t, "all places", a)
		for _, x := range slices.Clone(m) {
			fails(t, x, a.Remove(x.series, x.time), m.remove(x.series, x.time))
		}
		m.agrees(t, "no place", a)
	}
}

// The sum is told as an Int as far as int64 goes, and not a step farther; and Over goes as it came.
func TestSum(t *testing.T) {
	for _, c := range []struct {
		l    []int64
		over bool
	}{
		{[]int64{math.MaxInt64}, false},
		{[]int64{math.MinInt64}, false},
		{[]int64{math.MaxInt64, 1}, true},
		{[]int64{math.MinInt64, -1}, true},
		{[]int64{math.MaxInt64, 1, -1}, false},
		{[]int64{math.MaxInt64, math.MaxInt64, math.MinInt64, math.MinInt64}, false},
		{[]int64{math.MinInt64, math.MinInt64}, true},
		{[]int64{1 << 62, 1<<62 - 1}, false},
		{[]int64{0}, false},
		{[]int64{5, -5}, false},
	} {
		a, m := begin(t, api.TotalOf), model{}
		for i, n := range c.l {
			x := one{"a", int64(i), n}
			fails(t, x, a.Add(x.series, x.time, x.n), m.add(x))
			m.agrees(t, c.l, a)
		}
		if v := a.Value(); !v.Some || v.Value.Kind == api.Over != c.over {
			t.Errorf("%v: %v", c.l, v)
		}
		for len(m) > 0 {
			x := m[0]
			fails(t, x, a.Remove(x.series, x.time), m.remove(x.series, x.time))
			m.agrees(t, c.l, a)
		}
	}
}

// The numbers that are in count, not the way there; and what goes in and out leaves what was told.
func TestOtherWays(t *testing.T) {
	d := draw()
	for range 200 {
		one, two, m := begun(t), begun(t), model{}
		for range 40 {
			step(t, d, one, &m)
		}
		for _, at := range permuted(d, len(m)) {
			x := m[at]
			for _, a := range two {
				fails(t, x, a.Add(x.series, x.time, x.n), 0)
			}
		}
		x := someOne(d)
		known := m.find(x.series, x.time) >= 0
		for i := range all {
			slot, value := one[i].Slot(), one[i].Value()
			if slot != two[i].Slot() || value != two[i].Value() || one[i].Len() != two[i].Len() {
				t.Fatalf("function %d of %v: %v by one way, %v by another one", all[i], m, slot, two[i].Slot())
			}
			if known {
				continue
			}
			fails(t, x, one[i].Add(x.series, x.time, x.n), 0)
			fails(t, x, one[i].Remove(x.series, x.time), 0)
			if slot != one[i].Slot() || value != one[i].Value() || one[i].Len() != len(m) {
				t.Fatalf("function %d of %v: %v, and %v once %v was taken back", all[i], m, slot, one[i].Slot(), x)
			}
		}
	}
}

// permuted is the numbers from 0 on, as many as asked for, in an order that is drawn.
func permuted(d sample.Draw, many int) []int {
	var l []int
	for i := range many {
		l = slices.Insert(l, d(i+1), i)
	}
	return l
}

// Min, Max, First, Last and the sum stand to one another as the numbers let them.
func TestBetween(t *testing.T) {
	d := draw()
	for range 300 {
		l, m := begun(t), model{}
		for range 1 + d(30) {
			step(t, d, l, &m)
		}
		if len(m) == 0 {
			continue
		}
		total, least, most, first, last := l[1].Slot(), l[2].Slot().N, l[3].Slot().N, l[4].Slot().N, l[5].Slot().N
		times := func(n int64) *big.Int { return new(big.Int).Mul(big.NewInt(n), big.NewInt(int64(len(m)))) }
		sum := whole(total.Sum)
		if least > most || sum.Cmp(times(least)) < 0 || sum.Cmp(times(most)) > 0 {
			t.Errorf("of %v: the sum %v, from %d to %d", m, sum, least, most)
		}
		for _, n := range []int64{first, last} {
			if !slices.ContainsFunc(m, func(x one) bool { return x.n == n }) {
				t.Errorf("%d is none of %v", n, m)
			}
		}
	}
}

// Many numbers, of which each is taken back, the one that is told first of all.
func TestManyNumbers(t *testing.T) {
	d := draw()
	const many = 20000
	order := permuted(d, many)
	for _, a := range begun(t) {
		for _, n := range order {
			// The number, the time and the name rise together: so it is the outermost one that is told.
			fails(t, n, a.Add("cpu,host="+strconv.Itoa(many+n)+" v", int64(n/3), int64(n)), 0)
		}
		for i := range many {
			least, left := int64(i), int64(many-i)
			want := map[api.Func]int64{
				api.Count: left, api.TotalOf: left * (least + many - 1) / 2, api.Min: least, api.First: least, api.Max: left - 1, api.Last: left - 1,
			}[a.Func()]
			if a.Value() != told(want) {
				t.Fatalf("function %d: %v, not %d", a.Func(), a.Value(), want)
			}
			gone := i
			if a.Func() == api.Max || a.Func() == api.Last {
				gone = many - 1 - i
			}
			fails(t, gone, a.Remove("cpu,host="+strconv.Itoa(many+gone)+" v", int64(gone/3)), 0)
		}
		model{}.agrees(t, "all are out", a)
	}
}

// What becomes of an accumulator changes nothing of its fork.
func TestFork(t *testing.T) {
	d := draw()
	for range 60 {
		one, m := begun(t), model{}
		for range d(30) {
			step(t, d, one, &m)
		}
		var two []*Acc
		for _, a := range one {
			two = append(two, a.Fork())
		}
		its := slices.Clone(m)
		for range 40 {
			if d(2) == 0 {
				step(t, d, one, &m)
			} else {
				step(t, d, two, &its)
			}
			for i := range all {
				m.agrees(t, "an accumulator", one[i])
				its.agrees(t, "its fork", two[i])
			}
		}
	}
}

// What is taken out is let go.
func TestLetGo(t *testing.T) {
	for _, a := range begun(t) {
		for n := range int64(9) {
			fails(t, n, a.Add("cpu v", n, n), 0)
			fails(t, n, a.Remove("cpu v", n), 0)
		}
		if e, ok := a.in.(*edge); ok && len(e.numbers) > 0 {
			t.Errorf("function %d keeps %v", a.Func(), e.numbers)
		}
	}
}
