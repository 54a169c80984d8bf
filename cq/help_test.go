package cq

import (
	"cmp"
	"fmt"
	"math"
	"math/big"
	"math/rand"
	"slices"
	"testing"

	"weir/api"
	"weir/check"
	"weir/expect"
	"weir/gen"
	"weir/key"
	"weir/num"
	"weir/parse"
	"weir/plan"
	"weir/sample"
	"weir/vm"
)

const none = expect.None

// fails holds an error against a number, a place and an index.
func fails(t *testing.T, what any, err error, e api.Errno, pos, index int) {
	t.Helper()
	if wrong := expect.Wrong(err, e, pos, index); wrong != "" {
		t.Fatalf("%.1500s: %v: %s", fmt.Sprintf("%+v", what), err, wrong)
	}
}

// is holds what was told against what must be; an empty list is a nil one.
func is(t *testing.T, what string, got, want any) {
	t.Helper()
	if fmt.Sprintf("%+v", got) != fmt.Sprintf("%+v", want) {
		t.Fatalf("%s:\n%.1500s\nand not\n%.1500s", what, fmt.Sprintf("%+v", got), fmt.Sprintf("%+v", want))
	}
}

// draw draws from a source with a fixed seed, so that each run draws the same.
func draw() sample.Draw { return rand.New(rand.NewSource(1970)).Intn }

// columns are those of which queries are drawn.
var columns = api.Table{Measure: "cpu", Tags: []string{"host", "zone"}, Fields: []string{"v", "w"}}

// programOf is the program of a query, plain or not.
func programOf(t *testing.T, q api.Query, plain bool) api.Program {
	t.Helper()
	whole, err := check.Query([]api.Table{columns}, q)
	if err != nil {
		t.Fatal(err)
	}
	make := plan.Best
	if plain {
		make = plan.Plain
	}
	p, err := make(whole)
	if err != nil {
		t.Fatal(err)
	}
	program, err := gen.Make(p)
	if err != nil {
		t.Fatal(err)
	}
	return program
}

// read is the query of a text.
func read(t *testing.T, text string) api.Query {
	t.Helper()
	q, err := parse.Query(text)
	if err != nil {
		t.Fatalf("%s: %v", text, err)
	}
	return q
}

// begin is a query that goes on.
func begin(t *testing.T, p api.Program) *Query {
	t.Helper()
	q, err := New(p)
	fails(t, p, err, 0, none, none)
	return q
}

// asking draws a query that has a program: its text is not too long.
func asking(d sample.Draw) api.Query {
	for {
		q := d.Asking(columns, "target")
		if _, err := check.Query([]api.Table{columns}, q); err == nil {
			return q
		}
	}
}

func amount(n int64) api.Value { return api.Value{N: n} }

// on is a series of cpu with a host, if that is not empty.
func on(host, field string) api.Series {
	return api.Series{Measure: "cpu", Tags: key.Join([]string{"host"}, []string{host}), Field: field}
}

// became is a delta of numbers; nil stands for none.
func became(s api.Series, t int64, old, now any) api.Delta {
	d := api.Delta{Series: s, Time: t}
	value := func(v any) (api.Value, bool) {
		switch v := v.(type) {
		case int:
			return amount(int64(v)), true
		case api.Value:
			return v, true
		}
		return api.Value{}, false
	}
	d.Old, d.Had = value(old)
	d.New, d.Has = value(now)
	return d
}

// opposite are deltas turned about, the last one first.
func opposite(l []api.Delta) []api.Delta {
	var back []api.Delta
	for _, d := range slices.Backward(l) {
		back = append(back, api.Delta{Series: d.Series, Time: d.Time, Had: d.Has, Has: d.Had, Old: d.New, New: d.Old})
	}
	return back
}

// in is a number that is in the accumulators of its field.
type in struct {
	series  api.Series
	time, n int64
	cell    api.Cell
}

// model is what a query must be: the numbers that are in, the rows that are told, gone through for each answer.
type model struct {
	program api.Program
	frozen  int64
	numbers []in
	rows    []row
	steps   int
}

// row is what is told of a cell.
type row struct {
	cell api.Cell
	told []api.Told
}

func modelOf(p api.Program) *model { return &model{program: p, frozen: math.MinInt64} }

func sameCell(a, b api.Cell) bool { return a.Start == b.Start && slices.Equal(a.Group, b.Group) }

func compareCells(a, b api.Cell) int {
	return cmp.Or(cmp.Compare(a.Start, b.Start), slices.Compare(a.Group, b.Group))
}

// outcome is what Apply must answer.
type outcome struct {
	deltas []api.Delta
	steps  int
	e      api.Errno
	index  int
}

// windowOf is the beginning of a time's window, and whether it is inside int64.
func windowOf(p api.Program, t int64) (int64, bool) {
	into := new(big.Int).Sub(big.NewInt(t), big.NewInt(p.Offset))
	start := new(big.Int).Sub(big.NewInt(t), into.Mod(into, big.NewInt(p.Every)))
	return start.Int64(), start.IsInt64()
}

// speaks is the chapter's word on a delta and a program.
func (m *model) speaks(d api.Delta) bool {
	of := slices.ContainsFunc(m.program.Accs, func(a api.Acc) bool { return a.Field == d.Series.Field })
	return d.Series.Measure == m.program.From && of && d.Time >= m.frozen
}

// apply does deltas, if all of them fit.
func (m *model) apply(l []api.Delta) outcome {
	next := model{m.program, m.frozen, slices.Clone(m.numbers), nil, 0}
	var touched []api.Cell
	for i, d := range l {
		cells, steps, e := next.one(d)
		if e != 0 {
			return outcome{nil, 0, e, i}
		}
		next.steps += steps
		touched = append(touched, cells...)
	}
	slices.SortFunc(touched, compareCells)
	touched = slices.CompactFunc(touched, sameCell)
	next.rows = slices.DeleteFunc(slices.Clone(m.rows), func(r row) bool {
		return slices.ContainsFunc(touched, func(c api.Cell) bool { return sameCell(c, r.cell) })
	})
	for _, c := range touched {
		told, steps := next.tell(c)
		next.steps += steps
		next.rows = append(next.rows, row{c, told})
	}
	out := outcome{deltas: between(m.writes(), next.writes()), steps: next.steps, index: none}
	next.steps += m.steps
	*m = next
	return out
}

// one does one delta: the cells in which a number went in or out, how many instructions were run, and what is wrong with it.
func (m *model) one(d api.Delta) (touched []api.Cell, steps int, e api.Errno) {
	switch {
	case key.Name(d.Series.Measure) != nil:
		return nil, 0, api.ErrName
	case key.Tags(d.Series.Tags) != nil:
		return nil, 0, api.ErrTags
	case key.Name(d.Series.Field) != nil || d.Series.Field == "time":
		return nil, 0, api.ErrName
	case !m.speaks(d):
		return nil, 0, 0
	}
	holds, steps, err := vm.Match(m.program, d.Series.Tags, d.Time)
	if err != nil || !holds {
		return nil, steps, 0
	}
	start, inside := windowOf(m.program, d.Time)
	if !inside {
		return nil, 0, api.ErrRange
	}
	c := api.Cell{Start: start, Group: key.Group(d.Series.Tags, m.program.Groups)}
	find := func() int {
		return slices.IndexFunc(m.numbers, func(x in) bool { return key.Compare(x.series, d.Series) == 0 && x.time == d.Time })
	}
	if d.Had && d.Old.Kind == api.Int {
		at := find()
		if at < 0 || m.numbers[at].n != d.Old.N {
			return nil, 0, api.ErrRange
		}
		m.numbers = slices.Delete(m.numbers, at, at+1)
		touched = []api.Cell{c}
	}
	if d.Has && d.New.Kind == api.Int {
		if find() >= 0 {
			return nil, 0, api.ErrRange
		}
		m.numbers = append(m.numbers, in{d.Series, d.Time, d.New.N, c})
		touched = []api.Cell{c}
	}
	return touched, steps, 0
}

// of are the numbers of a cell, by time, then by series: of one field, or of all.
func (m *model) of(c api.Cell, field string) []in {
	its := slices.DeleteFunc(slices.Clone(m.numbers), func(x in) bool {
		return !sameCell(x.cell, c) || field != "" && x.series.Field != field
	})
	slices.SortFunc(its, func(a, b in) int { return cmp.Or(cmp.Compare(a.time, b.time), key.Compare(a.series, b.series)) })
	return its
}

// slot is what an accumulator tells of numbers.
func slot(f api.Func, l []in) api.Slot {
	if len(l) == 0 {
		return api.Slot{}
	}
	s := api.Slot{Some: true}
	var numbers []int64
	for _, x := range l {
		numbers = append(numbers, x.n)
		if f == api.TotalOf {
			s.Sum = num.Plus(s.Sum, x.n)
		}
	}
	switch f {
	case api.Count:
		s.N = int64(len(l))
	case api.Min:
		s.N = slices.Min(numbers)
	case api.Max:
		s.N = slices.Max(numbers)
	case api.First:
		s.N = numbers[0]
	case api.Last:
		s.N = numbers[len(numbers)-1]
	}
	return s
}

// tell is what is told of a cell, and how many instructions that takes.
func (m *model) tell(c api.Cell) ([]api.Told, int) {
	if len(m.of(c, "")) == 0 {
		return make([]api.Told, len(m.program.Aliases)), 0
	}
	var slots []api.Slot
	for _, a := range m.program.Accs {
		slots = append(slots, slot(a.Func, m.of(c, a.Field)))
	}
	told, steps, err := vm.Tell(m.program, slots)
	if err != nil {
		panic(err)
	}
	return told, steps
}

// writes are the rows as samples, in order.
func (m *model) writes() []api.Write {
	var l []api.Write
	for _, r := range m.rows {
		for i, one := range r.told {
			if one.Some {
				s := api.Series{Measure: m.program.Into, Tags: key.Join(m.program.Groups, r.cell.Group), Field: m.program.Aliases[i]}
				l = append(l, api.Write{Series: s, Sample: api.Sample{Time: r.cell.Start, Value: one.Value}})
			}
		}
	}
	slices.SortFunc(l, func(a, b api.Write) int {
		return cmp.Or(key.Compare(a.Series, b.Series), cmp.Compare(a.Sample.Time, b.Sample.Time))
	})
	return l
}

// between are the deltas that lead from some samples to others, in order.
func between(a, b []api.Write) []api.Delta {
	all := append(slices.Clone(a), b...)
	slices.SortFunc(all, func(a, b api.Write) int {
		return cmp.Or(key.Compare(a.Series, b.Series), cmp.Compare(a.Sample.Time, b.Sample.Time))
	})
	same := func(a, b api.Write) bool {
		return key.Compare(a.Series, b.Series) == 0 && a.Sample.Time == b.Sample.Time
	}
	var l []api.Delta
	for _, w := range slices.CompactFunc(all, same) {
		d := api.Delta{Series: w.Series, Time: w.Sample.Time}
		value := func(l []api.Write) (api.Value, bool) {
			if i := slices.IndexFunc(l, func(o api.Write) bool { return same(o, w) }); i >= 0 {
				return l[i].Sample.Value, true
			}
			return api.Value{}, false
		}
		d.Old, d.Had = value(a)
		d.New, d.Has = value(b)
		if d.Had != d.Has || d.Old != d.New {
			l = append(l, d)
		}
	}
	return l
}

// freeze is Freeze.
func (m *model) freeze(t int64) api.Errno {
	if t < m.frozen {
		return api.ErrRange
	}
	if start, inside := windowOf(m.program, t); !inside || start != t {
		return api.ErrEdge
	}
	m.frozen = t
	m.numbers = slices.DeleteFunc(m.numbers, func(x in) bool { return x.cell.Start < t })
	return 0
}

// agrees asks a query all that can be asked, and holds it against what it must be.
func (m *model) agrees(t *testing.T, q *Query) {
	t.Helper()
	is(t, "Rows", q.Rows(), m.writes())
	var cells []api.Cell
	for _, x := range m.numbers {
		cells = append(cells, x.cell)
	}
	slices.SortFunc(cells, compareCells)
	cells = slices.CompactFunc(cells, sameCell)
	is(t, "Cells", q.Cells(), cells)
	for _, r := range append(slices.Clone(m.rows), row{cell: api.Cell{Start: 1 << 60}}, row{}) {
		there := slices.ContainsFunc(cells, func(c api.Cell) bool { return sameCell(c, r.cell) })
		var want []api.Told
		for _, a := range m.program.Accs {
			if there {
				want = append(want, value(a.Func, slot(a.Func, m.of(r.cell, a.Field))))
			}
		}
		got, ok := q.Cell(r.cell)
		is(t, "Cell", got, want)
		if ok != there {
			t.Fatalf("Cell of %v: %t", r.cell, ok)
		}
	}
	if q.Steps() != m.steps {
		t.Fatalf("%d steps, not %d", q.Steps(), m.steps)
	}
	is(t, "Program", q.Program(), m.program)
}

// value is what an accumulator tells as a value.
func value(f api.Func, s api.Slot) api.Told {
	told := api.Told{Some: s.Some, Value: amount(s.N)}
	if f != api.TotalOf {
		return told
	}
	n, err := num.Small(s.Sum)
	if err != nil {
		return api.Told{Some: true, Value: api.Value{Kind: api.Over}}
	}
	told.Value = amount(n)
	return told
}

// source is what a query reads: a value of each series, by its key, and time.
type source map[spot]api.Value

type spot struct {
	name string
	time int64
}

// someValue draws a number, mostly a small one, or a mark.
func someValue(d sample.Draw) api.Value {
	if d(6) == 0 {
		return sample.One(d, api.Value{Kind: api.Over}, api.Value{Kind: api.Void})
	}
	return amount(sample.One(d, int64(d(20)-10), int64(d(20)-10), 0, 1<<62, -1<<62, math.MaxInt64, math.MinInt64))
}

// someSeries draws a series of which a program speaks, and some others.
func someSeries(d sample.Draw, p api.Program) api.Series {
	fields := []string{"v", "other"}
	for _, a := range p.Accs {
		fields = append(fields, a.Field, a.Field)
	}
	s := api.Series{Measure: sample.One(d, p.From, p.From, p.From, p.From, "mem", p.Into), Field: sample.One(d, fields...)}
	texts := append([]string{"a", "b", "", "n,=\\ "}, p.Texts...)
	names := append(append([]string{"host"}, p.Groups...), p.Names...)
	for range d(4) {
		s.Tags = append(s.Tags, key.Join([]string{sample.One(d, names...)}, []string{sample.One(d, texts...)})...)
	}
	s.Tags = key.Sort(s.Tags)
	return s
}

// someTime draws one of few times of few windows, and the outermost.
func someTime(d sample.Draw, p api.Program) int64 {
	near := p.Offset + int64(d(4)-2)*p.Every + sample.One(d, 0, 0, 1, -1, p.Every/2)
	if d(12) > 0 {
		return sample.One(d, near, near, int64(d(30)-15))
	}
	return sample.One(d, append([]int64{math.MinInt64, math.MaxInt64, -api.MaxTime, api.MaxTime}, p.Times...)...)
}

// some draws deltas that lead the source on; odd ones may be wrong in each way.
func (s source) some(d sample.Draw, p api.Program, odd bool) []api.Delta {
	var l []api.Delta
	for range d(7) {
		x := someSeries(d, p)
		at := spot{key.Print(x), someTime(d, p)}
		if known := s.spots(); len(known) > 0 && d(2) == 0 {
			at = sample.One(d, known...)
			x, _ = key.Parse(at.name)
		}
		one := api.Delta{Series: x, Time: at.time}
		one.Old, one.Had = s[at]
		delete(s, at)
		if d(3) > 0 {
			one.Has, one.New = true, someValue(d)
			s[at] = one.New
		}
		if odd && d(4) == 0 {
			one = spoilt(d, one)
		}
		l = append(l, one)
	}
	return l
}

// spots are those at which something is, in order.
func (s source) spots() []spot {
	var l []spot
	for at := range s {
		l = append(l, at)
	}
	slices.SortFunc(l, func(a, b spot) int { return cmp.Or(cmp.Compare(a.name, b.name), cmp.Compare(a.time, b.time)) })
	return l
}

// spoilt is a delta of which something is another thing: not each of them is wrong.
func spoilt(d sample.Draw, one api.Delta) api.Delta {
	switch d(8) {
	case 0:
		one.Series.Measure = sample.One(d, "", "\xff", "mem")
	case 1:
		one.Series.Field = sample.One(d, "", "time", "other")
	case 2:
		one.Series.Tags = sample.One(d, []api.Tag{{Key: "b", Value: "1"}, {Key: "a", Value: "1"}}, []api.Tag{{Key: "a"}}, nil)
	case 3:
		one.Old = sample.One(d, amount(one.Old.N+1), api.Value{Kind: 77, N: one.Old.N}, api.Value{Kind: api.Over})
	case 4:
		one.New = sample.One(d, amount(5), api.Value{Kind: 3, N: 5}, api.Value{Kind: api.Void, N: 1})
	case 5:
		one.Had = !one.Had
	case 6:
		one.Has = !one.Has
	case 7:
		one.Time = sample.One[int64](d, 0, math.MinInt64, math.MaxInt64)
	}
	return one
}

// copyDeltas are deltas in memory of their own, with something behind the end of each list.
func copyDeltas(l []api.Delta) []api.Delta {
	l = sample.Room(l, api.Delta{Time: 99})
	for i := range l {
		l[i].Series.Tags = sample.Room(l[i].Series.Tags, api.Tag{Key: "spare"})
	}
	return l
}

// spareDeltas is all that copyDeltas has made.
func spareDeltas(l []api.Delta) []any {
	all := []any{sample.Spare(l)}
	for _, d := range l {
		all = append(all, sample.Spare(d.Series.Tags))
	}
	return all
}

// spoilDeltas changes all that deltas have.
func spoilDeltas(l []api.Delta) {
	for i := range l {
		sample.Fill(l[i].Series.Tags, api.Tag{Key: "spoilt"})
	}
	sample.Fill(l, api.Delta{Time: 77})
}

func spotOf(s api.Series, t int64) spot { return spot{key.Print(s), t} }
