package cq

import (
	"errors"
	"fmt"
	"math"
	"slices"
	"testing"

	"weir/api"
	"weir/cell"
	"weir/fault"
	"weir/sample"
	"weir/store"
	"weir/verify"
	"weir/vm"
)

// The chapter's examples.
func TestExamples(t *testing.T) {
	q := begin(t, programOf(t, read(t, "SELECT mean(v) AS m INTO t FROM cpu GROUP BY time(3600ns), host"), false))
	told := api.Series{Measure: "t", Tags: []api.Tag{{Key: "host", Value: "a"}}, Field: "m"}
	for _, c := range []struct{ in, out api.Delta }{
		{became(on("a", "v"), 10, nil, 4), became(told, 0, nil, 4)},
		{became(on("a", "v"), 20, nil, 7), became(told, 0, 4, 5)},
		{became(on("a", "v"), 10, 4, -9), became(told, 0, 5, -1)},
		{became(on("a", "v"), 10, -9, nil), became(told, 0, -1, 7)},
		{became(on("a", "v"), 20, 7, nil), became(told, 0, 7, nil)},
	} {
		l, _, err := q.Apply([]api.Delta{c.in})
		fails(t, c.in, err, 0, none, none)
		is(t, "a delta", l, []api.Delta{c.out})
	}
	twice := became(on("a", "v"), 10, nil, 1)
	l, steps, err := q.Apply([]api.Delta{twice, twice})
	fails(t, "twice", err, api.ErrRange, none, 1)
	is(t, "beside an error", []any{l, steps, q.Rows(), q.Cells()}, []any{[]api.Delta(nil), 0, []api.Write(nil), []api.Cell(nil)})
	other := twice
	other.Series.Measure = "mem"
	l, steps, err = q.Apply([]api.Delta{other})
	is(t, "of another measure", []any{l, steps, err}, []any{[]api.Delta(nil), 0, nil})
	fails(t, "Freeze", q.Freeze(5), api.ErrEdge, none, none)
	fails(t, "Freeze", q.Freeze(3600), 0, none, none)
	l, steps, err = q.Apply([]api.Delta{became(on("a", "v"), 20, nil, 4)})
	is(t, "ahead of what is frozen", []any{l, steps, err}, []any{[]api.Delta(nil), 0, nil})
	fails(t, "Freeze", q.Freeze(4000), api.ErrEdge, none, none)
	fails(t, "Freeze", q.Freeze(0), api.ErrRange, none, none)
	// What is named first is told, where both apply.
	fails(t, "Freeze", q.Freeze(5), api.ErrRange, none, none)
}

// P25.1
func TestNew(t *testing.T) {
	d := draw()
	refused, without := 0, 0
	for i := range 2000 {
		p := d.Program(1 + i%12)
		if i%2 > 0 {
			p = d.Broken(p)
		}
		q, err := New(p)
		want := verify.Program(p)
		switch {
		case want != nil:
			refused++
			pos, placed := fault.Place(want)
			if !placed {
				pos = none
			}
			fails(t, p, err, fault.Code(want), pos, none)
		case p.Into == "":
			without++
			fails(t, p, err, api.ErrTarget, none, none)
		default:
			fails(t, p, err, 0, none, none)
			modelOf(p).agrees(t, q)
			continue
		}
		if q != nil {
			t.Fatalf("%v beside an error", q)
		}
	}
	if refused < 400 || without < 100 {
		t.Errorf("%d were refused, %d without a target", refused, without)
	}
}

// programs draws one of each kind: as a query stands, at its best, and of no query.
func programs(t *testing.T, d sample.Draw) []api.Program {
	asked := asking(d)
	l := []api.Program{programOf(t, asked, true), programOf(t, asked, false)}
	p := d.Program(2 + d(12))
	p.Into = sample.One(d, "target", p.From)
	if d(2) > 0 {
		p.Every = 1 + int64(d(40))
		p.Offset = sample.One(d, 0, p.Every-1)
	}
	return append(l, p)
}

// P25.2, P25.3, P25.6: whatever the calls, each answers what it must, and leaves what it must.
func TestAnyCalls(t *testing.T) {
	d := draw()
	done, refusals, told, frozen, edges := 0, 0, 0, 0, 0
	for range 100 {
		for _, p := range programs(t, d) {
			q, m, s := begin(t, p), modelOf(p), source{}
			for range 25 {
				if d(10) == 0 {
					at := sample.One(d, p.Offset+int64(d(5)-2)*p.Every, someTime(d, p))
					e := m.freeze(at)
					fails(t, at, q.Freeze(at), e, none, none)
					if e == 0 {
						frozen++
					} else {
						edges++
					}
					m.agrees(t, q)
					continue
				}
				odd := d(3) == 0
				before := another(s)
				l := s.some(d, p, odd)
				speaking := 0
				for _, one := range l {
					if m.speaks(one) {
						speaking++
					}
				}
				want := m.apply(l)
				got, steps, err := q.Apply(l)
				fails(t, l, err, want.e, none, want.index)
				is(t, "Apply", got, want.deltas)
				if steps != want.steps || steps > speaking*(len(p.Filter)+len(p.Output)) {
					t.Fatalf("%v: %d steps, not %d; %d deltas speak", l, steps, want.steps, speaking)
				}
				m.agrees(t, q)
				told += len(got)
				if err != nil {
					refusals++
					s = before
				} else {
					done++
				}
				if odd {
					// What was spoilt may have led elsewhere: the numbers that are in tell where.
					s = m.source()
				}
			}
		}
	}
	if done < 3000 || refusals < 500 || told < 2000 || frozen < 100 || edges < 100 {
		t.Errorf("%d calls were done, %d refused; %d deltas; %d times frozen, %d not", done, refusals, told, frozen, edges)
	}
}

// another is a source by itself.
func another(s source) source {
	other := source{}
	for at, v := range s {
		other[at] = v
	}
	return other
}

// source is what is there, as far as the numbers that are in tell it.
func (m *model) source() source {
	s := source{}
	for _, x := range m.numbers {
		s[spotOf(x.series, x.time)] = amount(x.n)
	}
	return s
}

// P25.2: each way in which a delta does not fit.
func TestRefused(t *testing.T) {
	p := programOf(t, read(t, "SELECT sum(v) AS s, max(v) AS x, count(w) AS c INTO t FROM cpu WHERE host != 'no' GROUP BY time(7ns), host"), false)
	v, w, no := on("a", "v"), on("a", "w"), on("no", "v")
	over := api.Value{Kind: api.Over}
	first := []api.Delta{became(v, 10, nil, 4), became(w, 10, nil, 4), became(v, 11, nil, over)}
	for _, c := range []struct {
		name string
		d    api.Delta
		e    api.Errno
	}{
		{"taken out as it is in", became(v, 10, 4, nil), 0},
		{"taken out as another one", became(v, 10, 5, nil), api.ErrRange},
		{"taken out where none is", became(v, 12, 4, nil), api.ErrRange},
		{"taken out of another cell", became(v, 17, 4, nil), api.ErrRange},
		{"taken out of another series", became(on("b", "v"), 10, 4, nil), api.ErrRange},
		{"another one in its place", became(v, 10, 4, 9), 0},
		{"the same in its place", became(v, 10, 4, 4), 0},
		{"put in where one is", became(v, 10, nil, 4), api.ErrRange},
		{"put in over a mark", became(v, 10, over, 4), api.ErrRange},
		{"a mark for a mark", became(v, 10, over, over), 0},
		{"a number for a mark", became(v, 11, over, 5), 0},
		{"a mark for a number", became(v, 10, 4, over), 0},
		{"a mark for another number", became(v, 10, 5, over), api.ErrRange},
		{"nothing for nothing", became(v, 10, nil, nil), 0},
		{"what the condition does not hold of", became(no, 10, 4, nil), 0},
		{"of no field", became(on("a", "x"), 10, 4, nil), 0},
		{"ahead of all windows", became(v, math.MinInt64, nil, nil), api.ErrRange},
		{"ahead of all windows, and passed over", became(no, math.MinInt64, nil, 4), 0},
		{"no measure", became(api.Series{Field: "v"}, 10, nil, nil), api.ErrName},
		{"no field", became(on("a", "time"), 10, nil, nil), api.ErrName},
		{"no tags", became(api.Series{Measure: "cpu", Tags: []api.Tag{{Key: "host"}}, Field: "v"}, 10, nil, nil), api.ErrTags},
		{"no tags of another measure", became(api.Series{Measure: "mem", Tags: []api.Tag{{Key: "host"}}, Field: "v"}, 10, nil, nil), api.ErrTags},
	} {
		q, m := begin(t, p), modelOf(p)
		m.apply(first)
		_, _, err := q.Apply(first)
		fails(t, c.name, err, 0, none, none)
		m.agrees(t, q)
		other := became(on("b", "v"), 10, nil, 1)
		m.apply([]api.Delta{other, c.d})
		_, _, err = q.Apply([]api.Delta{other, c.d})
		index := 1
		if c.e == 0 {
			index = none
		}
		fails(t, c.name, err, c.e, none, index)
		m.agrees(t, q)
	}
}

// P25.2: what was taken out and put in by turns ahead of a delta that does not fit is as it was.
func TestAllOrNone(t *testing.T) {
	p := programOf(t, read(t, "SELECT sum(v) AS s, first(v) AS f INTO t FROM cpu GROUP BY time(10ns), host"), false)
	q, m := begin(t, p), modelOf(p)
	first := []api.Delta{became(on("a", "v"), 1, nil, 4), became(on("b", "v"), 1, nil, 4), became(on("b", "v"), 2, nil, 5)}
	m.apply(first)
	q.Apply(first)
	turns := []api.Delta{
		became(on("a", "v"), 1, 4, nil), became(on("a", "v"), 3, nil, 6), became(on("a", "v"), 3, 6, 7), became(on("a", "v"), 3, 7, nil),
		became(on("c", "v"), 1, nil, 1), became(on("c", "v"), 1, 1, nil), became(on("b", "v"), 1, 4, 8),
	}
	wrong := became(on("b", "v"), 2, 6, nil)
	for many := range len(turns) + 1 {
		l := append(slices.Clone(turns[:many]), wrong)
		_, _, err := q.Apply(l)
		fails(t, l, err, api.ErrRange, none, many)
		m.agrees(t, q)
		if len(q.cells) != 2 {
			t.Errorf("%d cells are kept", len(q.cells))
		}
		fork, right := q.Fork(), turns[:many]
		got, steps, err := fork.Apply(right)
		fails(t, right, err, 0, none, none)
		other := *m
		want := other.apply(right)
		is(t, "Apply", got, want.deltas)
		if steps != want.steps {
			t.Errorf("%d steps, not %d", steps, want.steps)
		}
		other.agrees(t, fork)
	}
	_, _, err := q.Apply(opposite(first))
	fails(t, first, err, 0, none, none)
	if len(q.cells) != 0 {
		t.Errorf("%d cells are kept of nothing", len(q.cells))
	}
}

// P25.2: a cell of which another field's number alone is kept is told; one of which none is kept tells nothing, without a step.
func TestEmptyCell(t *testing.T) {
	p := programOf(t, read(t, "SELECT count(v) AS c INTO t FROM cpu GROUP BY time(10ns)"), false)
	p.Ints, p.Aliases = []int64{7}, append(p.Aliases, "seven")
	p.Output = append(p.Output[:2:2], api.Ins{Code: api.LoadInt}, api.Ins{Code: api.Emit, A: 1}, api.Ins{Code: api.Done})
	p.Accs = append(p.Accs, api.Acc{Func: api.Max, Field: "w"})
	q := begin(t, p)
	seven, c := api.Series{Measure: "t", Field: "seven"}, api.Series{Measure: "t", Field: "c"}
	for _, one := range []struct {
		in    api.Delta
		out   []api.Delta
		steps int
	}{
		{became(on("a", "w"), 1, nil, 9), []api.Delta{became(seven, 0, nil, 7)}, 7},
		{became(on("a", "v"), 1, nil, 9), []api.Delta{became(c, 0, nil, 1)}, 7},
		{became(on("a", "w"), 1, 9, nil), nil, 7},
		{became(on("a", "v"), 1, 9, nil), []api.Delta{became(c, 0, 1, nil), became(seven, 0, 7, nil)}, 2},
		{became(on("a", "v"), 1, api.Value{Kind: api.Void}, nil), nil, 2},
		{became(on("a", "x"), 1, nil, 1), nil, 0},
	} {
		l, steps, err := q.Apply([]api.Delta{one.in})
		fails(t, one.in, err, 0, none, none)
		is(t, "Apply", l, one.out)
		if steps != one.steps {
			t.Errorf("%v: %d steps, not %d", one.in, steps, one.steps)
		}
	}
	if told, there := q.Cell(api.Cell{}); told != nil || there {
		t.Errorf("%v", told)
	}
}

// P25.3: what is frozen stays, whatever comes; what is not goes on.
func TestFreeze(t *testing.T) {
	p := programOf(t, read(t, "SELECT sum(v) AS s, count(v) + count(w) AS c INTO t FROM cpu GROUP BY time(10ns, 3ns), host"), false)
	q, m := begin(t, p), modelOf(p)
	do := func(l ...api.Delta) {
		t.Helper()
		m.apply(l)
		_, _, err := q.Apply(l)
		fails(t, l, err, 0, none, none)
		m.agrees(t, q)
	}
	freeze := func(at int64, e api.Errno) {
		t.Helper()
		m.freeze(at)
		fails(t, at, q.Freeze(at), e, none, none)
		m.agrees(t, q)
	}
	do(became(on("a", "v"), 3, nil, 1), became(on("a", "v"), 12, nil, 2), became(on("a", "v"), 13, nil, 3), became(on("b", "w"), 4, nil, 4))
	freeze(-7, 0)
	freeze(-7, 0)
	freeze(12, api.ErrEdge)
	freeze(13, 0)
	if n := len(q.Cells()); n != 1 || len(q.Rows()) != 2 {
		t.Errorf("%d cells, %v", n, q.Rows())
	}
	do(became(on("a", "v"), 12, 2, nil), became(on("a", "v"), 12, nil, 2), became(on("a", "v"), 12, 77, nil))
	do(became(on("a", "v"), 13, 3, nil), became(on("a", "w"), 14, nil, 3))
	freeze(3, api.ErrRange)
	freeze(4, api.ErrRange)
	freeze(1003, 0)
	freeze(math.MaxInt64, api.ErrEdge)
	do(became(on("a", "w"), 14, 3, nil))

	// The first of all times may be frozen, too, and then nothing is ahead of it.
	whole := programOf(t, read(t, "SELECT sum(v) AS s INTO t FROM cpu GROUP BY time(2ns)"), false)
	first := begin(t, whole)
	fails(t, "Freeze", first.Freeze(math.MinInt64), 0, none, none)
	if l, _, err := first.Apply([]api.Delta{became(on("a", "v"), math.MinInt64, nil, 1)}); len(l) != 1 || err != nil {
		t.Errorf("%v, %v", l, err)
	}
	whole.Every = 7
	fails(t, "Freeze", begin(t, whole).Freeze(math.MinInt64), api.ErrEdge, none, none)
}

// someWrites draws writes of a source, some of other measures.
func someWrites(d sample.Draw, p api.Program) []api.Write {
	return sample.Some(d(12), func() api.Write {
		return api.Write{Series: someSeries(d, p), Sample: api.Sample{Time: int64(d(40) - 20), Value: someValue(d)}}
	})
}

// next leads a store on, by writing or by deleting.
func next(t *testing.T, d sample.Draw, s *store.Store, p api.Program) []api.Delta {
	t.Helper()
	if d(4) == 0 {
		from := int64(d(40) - 20)
		l, err := s.Delete("cpu", nil, from, from+int64(d(20)))
		fails(t, "Delete", err, 0, none, none)
		return l
	}
	l, err := s.Write(someWrites(d, p))
	fails(t, "Write", err, 0, none, none)
	return l
}

// P25.4, P25.5, P25.8: behind the deltas of rows of writes Rows is what the query means of what is there; the target's
// deltas lead there, as one step or as many; the plain program tells the same.
func TestTrue(t *testing.T) {
	d := draw()
	rows := 0
	for range 400 {
		asked := asking(d)
		plain, best := begin(t, programOf(t, asked, true)), begin(t, programOf(t, asked, false))
		kept, _ := store.New(api.MaxSeries, api.MaxPoints)
		target, _ := store.New(api.MaxSeries, api.MaxPoints)
		started := best.Fork()
		var all []api.Delta
		for range 5 {
			deltas := next(t, d, kept, best.Program())
			all = append(all, deltas...)
			told, _, err := best.Apply(deltas)
			fails(t, deltas, err, 0, none, none)
			fails(t, told, target.Apply(told), 0, none, none)
			_, _, err = plain.Apply(deltas)
			fails(t, deltas, err, 0, none, none)
			there, _ := kept.Scan("cpu", nil, math.MinInt64, math.MaxInt64)
			answer, err := cell.Answer(asked, there)
			fails(t, asked, err, 0, none, none)
			want, err := cell.Writes(asked, answer)
			fails(t, asked, err, 0, none, none)
			rows += len(want)
			is(t, "Rows", best.Rows(), want)
			is(t, "Rows of the plain one", plain.Rows(), want)
			led, _ := target.Scan("target", nil, math.MinInt64, math.MaxInt64)
			is(t, "what deltas lead to", led, want)
		}
		told, _, err := started.Apply(all)
		fails(t, all, err, 0, none, none)
		is(t, "all at once", started.Rows(), best.Rows())
		other, _ := store.New(api.MaxSeries, api.MaxPoints)
		fails(t, told, other.Apply(told), 0, none, none)
		is(t, "what the deltas of all at once lead to", other.Save(), target.Save())
	}
	if rows < 2000 {
		t.Errorf("%d rows", rows)
	}
}

// P25.7
func TestOpposite(t *testing.T) {
	d := draw()
	for range 60 {
		for _, p := range programs(t, d) {
			q, s := begin(t, p), source{}
			for range 10 {
				rows, cells := q.Rows(), q.Cells()
				l := s.some(d, p, false)
				before := another(s)
				told, _, err := q.Apply(l)
				if err != nil {
					// A window begins outside int64: the source goes on as it is in the query.
					s = source{}
					for _, w := range q.cells {
						for at, n := range w.numbers {
							s[spot{at.series, at.time}] = amount(n)
						}
					}
					continue
				}
				s = before
				back, _, err := q.Apply(opposite(l))
				fails(t, l, err, 0, none, none)
				is(t, "Rows", q.Rows(), rows)
				is(t, "Cells", q.Cells(), cells)
				is(t, "the target's deltas", sorted(back), sorted(opposite(told)))
				_, _, err = q.Apply(l)
				fails(t, l, err, 0, none, none)
			}
		}
	}
}

// sorted are deltas by what they say.
func sorted(l []api.Delta) []string {
	var texts []string
	for _, d := range l {
		texts = append(texts, fmt.Sprintf("%+v", d))
	}
	slices.Sort(texts)
	return texts
}

// P4
func TestFork(t *testing.T) {
	d := draw()
	for range 60 {
		for _, p := range programs(t, d) {
			q, m, s := begin(t, p), modelOf(p), source{}
			for range 6 {
				l := s.some(d, p, true)
				m.apply(l)
				q.Apply(l)
				s = m.source()
			}
			fork, other, there := q.Fork(), *m, another(s)
			other.numbers, other.rows = slices.Clone(m.numbers), slices.Clone(m.rows)
			for range 6 {
				at := p.Offset + int64(d(3)-1)*p.Every
				l := s.some(d, p, false)
				m.apply(l)
				q.Apply(l)
				if d(3) == 0 {
					m.freeze(at)
					q.Freeze(at)
				}
				other.agrees(t, fork)
				l = there.some(d, p, false)
				other.apply(l)
				fork.Apply(l)
				if d(3) == 0 {
					other.freeze(at)
					fork.Freeze(at)
				}
				m.agrees(t, q)
				s, there = m.source(), other.source()
			}
		}
	}
}

// P3: what is handed in stays as it is, and is not kept; what is answered is the caller's.
func TestMemory(t *testing.T) {
	d := draw()
	for range 60 {
		for _, p := range programs(t, d) {
			handed := sample.CopyProgram(p)
			q, m, s := begin(t, handed), modelOf(p), source{}
			is(t, "the program", sample.SpareProgram(handed), sample.SpareProgram(sample.CopyProgram(p)))
			sample.SpoilProgram(handed)
			sample.SpoilProgram(q.Program())
			for range 6 {
				l := s.some(d, p, true)
				given := copyDeltas(l)
				want := m.apply(l)
				got, _, _ := q.Apply(given)
				is(t, "deltas", spareDeltas(given), spareDeltas(copyDeltas(l)))
				is(t, "Apply", got, want.deltas)
				spoilDeltas(given)
				spoilDeltas(got)
				rows := q.Rows()
				for i := range rows {
					sample.Fill(rows[i].Series.Tags, api.Tag{Key: "spoilt"})
				}
				for _, c := range q.Cells() {
					asked := api.Cell{Start: c.Start, Group: sample.Room(c.Group, "spare")}
					told, _ := q.Cell(asked)
					is(t, "a cell", sample.Spare(asked.Group), append(slices.Clone(c.Group), "spare"))
					sample.Fill(told, api.Told{})
					sample.Fill(c.Group, "spoilt")
				}
				m.agrees(t, q)
				s = m.source()
			}
		}
	}
}

// No two lists of one answer are one.
func TestApart(t *testing.T) {
	p := programOf(t, read(t, "SELECT min(v) AS s, max(v) AS x INTO t FROM cpu GROUP BY time(10ns), host"), false)
	q := begin(t, p)
	l, _, _ := q.Apply([]api.Delta{became(on("a", "v"), 1, nil, 4), became(on("a", "v"), 11, nil, 4)})
	rows := q.Rows()
	l[0].Series.Tags[0].Value, rows[0].Series.Tags[0].Value = "other", "other"
	for i := range 3 {
		if l[i+1].Series.Tags[0].Value != "a" || rows[i+1].Series.Tags[0].Value != "a" {
			t.Errorf("%v, %v", l, rows)
		}
	}
}

// P1
func TestNil(t *testing.T) {
	var q *Query
	l, steps, err := q.Apply([]api.Delta{{}})
	fails(t, "Apply", err, api.ErrNil, none, none)
	is(t, "Apply", []any{l, steps}, []any{[]api.Delta(nil), 0})
	fails(t, "Freeze", q.Freeze(5), api.ErrNil, none, none)
	told, there := q.Cell(api.Cell{})
	if q.Fork() != nil || q.Rows() != nil || q.Cells() != nil || told != nil || there || q.Steps() != 0 {
		t.Error("a nil query tells something")
	}
	is(t, "Program", q.Program(), api.Program{})
	var in api.In
	if _, _, err := begin(t, programOf(t, read(t, "SELECT max(v) AS x INTO t FROM cpu GROUP BY time(1h)"), false)).Apply(nil); err != nil || errors.As(err, &in) {
		t.Error(err)
	}
}

// P25.2: the instructions of a filter are counted for each delta that speaks, a mark's too; those of an output once for each cell.
func TestSteps(t *testing.T) {
	p := programOf(t, read(t, "SELECT sum(v) AS s, max(v) AS x INTO t FROM cpu WHERE host = 'a' AND time >= 0 GROUP BY time(10ns), host"), false)
	q := begin(t, p)
	match := func(host string, at int64) int {
		_, n, err := vm.Match(p, on(host, "v").Tags, at)
		if err != nil {
			t.Fatal(err)
		}
		return n
	}
	sum := 0
	for _, c := range []struct {
		l     []api.Delta
		steps int
	}{
		{nil, 0},
		{[]api.Delta{became(on("a", "v"), 1, nil, 4), became(on("a", "v"), 2, nil, 5)}, 2*match("a", 1) + len(p.Output)},
		{[]api.Delta{became(on("a", "v"), 3, nil, 4), became(on("a", "v"), 12, nil, 5)}, 2*match("a", 1) + 2*len(p.Output)},
		{[]api.Delta{became(on("b", "v"), 3, nil, 4), became(on("a", "v"), -1, nil, 5)}, match("b", 3) + match("a", -1)},
		{[]api.Delta{became(on("a", "v"), 4, nil, api.Value{Kind: api.Over})}, match("a", 4)},
		{[]api.Delta{became(on("a", "v"), 12, 5, nil)}, match("a", 12)},
		{[]api.Delta{became(on("a", "v"), 3, 4, 4)}, match("a", 3) + len(p.Output)},
		{[]api.Delta{became(on("a", "w"), 3, nil, 4)}, 0},
	} {
		_, steps, err := q.Apply(c.l)
		fails(t, c.l, err, 0, none, none)
		sum += c.steps
		if steps != c.steps || q.Steps() != sum {
			t.Errorf("%v: %d steps, not %d", c.l, steps, c.steps)
		}
	}
	_, _, err := q.Apply([]api.Delta{became(on("a", "v"), 5, nil, 1), became(on("a", "v"), 5, nil, 1)})
	fails(t, "twice", err, api.ErrRange, none, 1)
	if q.Steps() != sum {
		t.Errorf("%d steps, not %d", q.Steps(), sum)
	}
}
