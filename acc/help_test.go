package acc

import (
	"math"
	"math/big"
	"math/rand"
	"slices"
	"strings"
	"testing"

	"weir/api"
	"weir/expect"
	"weir/key"
	"weir/sample"
)

// fails holds an error against a number; it must tell no place and no index.
func fails(t *testing.T, what any, err error, e api.Errno) {
	t.Helper()
	if wrong := expect.Wrong(err, e, expect.None, expect.None); wrong != "" {
		t.Errorf("%.300v: %v: %s", what, err, wrong)
	}
}

// draw draws from a source with a fixed seed, so that each run draws the same.
func draw() sample.Draw { return rand.New(rand.NewSource(1970)).Intn }

// all are the functions that accumulators are of.
var all = []api.Func{api.Count, api.TotalOf, api.Min, api.Max, api.First, api.Last}

// begin is an accumulator of a function.
func begin(t *testing.T, f api.Func) *Acc {
	t.Helper()
	a, err := New(f)
	fails(t, f, err, 0)
	return a
}

// begun is one of each function.
func begun(t *testing.T) []*Acc {
	t.Helper()
	var l []*Acc
	for _, f := range all {
		l = append(l, begin(t, f))
	}
	return l
}

// one is a number that is in.
type one struct {
	series  string
	time, n int64
}

// model is the numbers that are in, gone through for each answer.
type model []one

func (m model) find(series string, t int64) int {
	return slices.IndexFunc(m, func(x one) bool { return x.series == series && x.time == t })
}

func (m *model) add(x one) api.Errno {
	if m.find(x.series, x.time) >= 0 {
		return api.ErrKnown
	}
	*m = append(*m, x)
	return 0
}

func (m *model) remove(series string, t int64) api.Errno {
	at := m.find(series, t)
	if at < 0 {
		return api.ErrNone
	}
	*m = slices.Delete(*m, at, at+1)
	return 0
}

// smaller is the chapter's word on two names of series.
func smaller(a, b string) bool {
	one, no := key.Parse(a)
	two, none := key.Parse(b)
	switch {
	case no == nil && none == nil:
		return key.Compare(one, two) < 0
	case no == nil || none == nil:
		return no == nil
	}
	return strings.Compare(a, b) < 0
}

// ahead tells whether one number is earlier than another one, or of one time of a smaller name.
func ahead(a, b one) bool {
	if a.time != b.time {
		return a.time < b.time
	}
	return smaller(a.series, b.series)
}

// best is the one of which it is told that it is better than all others.
func (m model) best(better func(a, b one) bool) int64 {
	found := m[0]
	for _, x := range m[1:] {
		if better(x, found) {
			found = x
		}
	}
	return found.n
}

// sum is of all numbers, without bounds.
func (m model) sum() *big.Int {
	sum := new(big.Int)
	for _, x := range m {
		sum.Add(sum, big.NewInt(x.n))
	}
	return sum
}

// whole is a sum of 128 bits as a number without bounds.
func whole(s api.Sum) *big.Int {
	n := new(big.Int).Lsh(big.NewInt(s.Hi), 64)
	return n.Add(n, new(big.Int).SetUint64(s.Lo))
}

// number is what a function other than TotalOf tells of the numbers, of which there is one at least.
func (m model) number(f api.Func) int64 {
	switch f {
	case api.Count:
		return int64(len(m))
	case api.Min:
		return m.best(func(a, b one) bool { return a.n < b.n })
	case api.Max:
		return m.best(func(a, b one) bool { return a.n > b.n })
	case api.First:
		return m.best(ahead)
	case api.Last:
		return m.best(func(a, b one) bool { return ahead(b, a) })
	}
	panic("no such function")
}

// tells is what an accumulator must tell of the numbers: as a value, and of TotalOf without bounds.
func (m model) tells(f api.Func) (api.Told, *big.Int) {
	sum := new(big.Int)
	switch {
	case len(m) == 0:
		return api.Told{}, sum
	case f != api.TotalOf:
		return api.Told{Some: true, Value: api.Value{Kind: api.Int, N: m.number(f)}}, sum
	}
	sum = m.sum()
	if !sum.IsInt64() {
		return api.Told{Some: true, Value: api.Value{Kind: api.Over}}, sum
	}
	return api.Told{Some: true, Value: api.Value{Kind: api.Int, N: sum.Int64()}}, sum
}

// agrees holds all that an accumulator tells against the numbers that are in.
func (m model) agrees(t *testing.T, what any, a *Acc) {
	t.Helper()
	f := a.Func()
	told, sum := m.tells(f)
	slot := api.Slot{Some: told.Some, N: told.Value.N}
	if f == api.TotalOf {
		slot.N = 0
	}
	got := a.Slot()
	slot.Sum = got.Sum
	if got != slot || whole(got.Sum).Cmp(sum) != 0 {
		t.Fatalf("%.300v: function %d of %.500v: %v, not %v with the sum %v", what, f, m, got, slot, sum)
	}
	if v := a.Value(); v != told {
		t.Fatalf("%.300v: function %d of %.500v: %v, not %v", what, f, m, v, told)
	}
	if a.Len() != len(m) {
		t.Fatalf("%.300v: %d numbers, not %d", what, a.Len(), len(m))
	}
}

// Names of series whose order is another one than that of their bytes, texts that are no keys, and some that
// look like a time and a name.
var someSeries = []string{
	"cpu v", "cpu w", "cpu vv", "cpu,host=a v", "cpu,host=b v", "cpu,host=a,zone=z v", "cpu,host=a! v", "cpu,host=aa v", "cpu,host!=a v", "cpu,host=a w",
	"cpu! v", "cpu!,host=a v", `cpu\,host\=a v`, "cpuZ v", `cpu\  v`, `cpu,host=a\,zone\=z v`, "cpu,a=z v", "cpu,hos=z v", "cpu,host=\u00a0 v", "\u00e9 v", `\\ v`, "! v", "cp v",
	"", "a", "b", "aa", "cpu", "cpu v w", "cpu,host v", "cpu,zone=z,host=a v", "cpu time", "\x00", "cpu v\x00", "cpu v\x01", "\x01", "\xff", "\xff v", "a v\x02",
	"1 cpu v", "1 1 cpu v", " cpu v", "acpu v", "bcpu v", "~", strings.Repeat("m", 64) + " v", strings.Repeat("m", 65) + " v", strings.Repeat("x", 5000),
}

// Times and numbers that are the same, near one another, and the outermost.
var (
	someTimes   = []int64{0, 1, 1, 1, -1, 11, 10, 2, 9, math.MinInt64, math.MaxInt64, math.MinInt64 + 1, math.MaxInt64 - 1}
	someNumbers = []int64{0, 0, 1, -1, 5, 9, -9, 10, math.MinInt64, math.MaxInt64, math.MinInt64 + 1, math.MaxInt64 - 1, 1 << 62, -1 << 62}
)

func someOne(d sample.Draw) one {
	return one{sample.One(d, someSeries...), sample.One(d, someTimes...), sample.One(d, someNumbers...)}
}

// step does one thing to accumulators and to what is in them.
func step(t *testing.T, d sample.Draw, l []*Acc, m *model) {
	t.Helper()
	x := someOne(d)
	if d(2) == 0 && len(*m) > 0 {
		x = sample.One(d, *m...)
	}
	if d(2) == 0 {
		no := m.add(x)
		for _, a := range l {
			fails(t, x, a.Add(x.series, x.time, x.n), no)
		}
		return
	}
	no := m.remove(x.series, x.time)
	for _, a := range l {
		fails(t, x, a.Remove(x.series, x.time), no)
	}
}
