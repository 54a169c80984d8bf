package engine

import (
	"fmt"
	"math"
	"slices"
	"testing"

	"weir/api"
	"weir/ast"
	"weir/key"
	"weir/line"
	"weir/sample"
)

// targets are the names that targets are given.
var targets = []string{"t1", "t2", "t3", "t 4", "time", "cpu!"}

// someText draws the text of a query: most may be registered.
func someText(d sample.Draw, m *model) string {
	source := sample.One(d, m.tables()...)
	q := d.Asking(source, sample.One(d, targets...))
	if d(4) == 0 && len(q.Items) == 1 && len(q.Items[0].Tree) == 1 {
		q.Items[0].Alias.Text = ""
	}
	switch d(30) {
	case 0:
		q.Into.Text = ""
	case 1:
		q.Into.Text = sample.One(d, m.tables()...).Measure
	case 2:
		q.From.Text = "nope"
	case 3:
		q.Fill = api.FillLast
	case 4:
		q.Groups = append(q.Groups, api.Label{Text: sample.One(d, "host", "nope")})
	case 5:
		q.Items = append(q.Items, api.Item{Tree: []api.Node{sample.Call(api.Max, "nope")}, Alias: api.Label{Text: "z"}})
	case 6:
		q.Items = append(q.Items, q.Items[0])
	}
	text, err := ast.Print(q)
	if err != nil || d(40) == 0 {
		return sample.One(d, "", "SELECT", "SELECT max(v INTO x", "select max(v) into t9 from cpu group by time(0s)", "é")
	}
	return text
}

// someMoment draws one of few times, and the outermost.
func someMoment(d sample.Draw) int64 {
	if d(15) > 0 {
		return int64(d(60) - 30)
	}
	return sample.One[int64](d, -api.MaxTime, api.MaxTime, -api.MaxTime+1, api.MaxTime-1)
}

// somePoint draws a point of a table; odd ones may be wrong.
func somePoint(d sample.Draw, m *model, odd bool) api.Point {
	t := sample.One(d, m.schema...)
	p := api.Point{Measure: t.Measure, Time: someMoment(d)}
	for _, tag := range t.Tags {
		p.Tags = append(p.Tags, key.Join([]string{tag}, []string{sample.One(d, "", "a", "b", "c d")})...)
	}
	for _, f := range t.Fields {
		if d(2) > 0 || len(p.Fields) == 0 {
			p.Fields = append(p.Fields, field(f, sample.One(d, int64(d(20)-10), int64(d(20)-10), 0, 1<<62, math.MaxInt64, math.MinInt64)))
		}
	}
	p.Tags = sample.Shuffled(d, p.Tags)
	if !odd || d(3) > 0 {
		return p
	}
	switch d(7) {
	case 0:
		p.Measure = sample.One(d, "", "nope", targets[0], targets[1])
	case 1:
		p.Tags = append(p.Tags, api.Tag{Key: sample.One(d, "nope", "time", "host"), Value: "a"})
	case 2:
		p.Fields = append(p.Fields, field(sample.One(d, "nope", "time", "v"), 1))
	case 3:
		p.Fields = nil
	case 4:
		p.Time = sample.One[int64](d, api.MaxTime+1, -api.MaxTime-1, math.MinInt64)
	case 5:
		p.Time = -29
	}
	return p
}

// someRange draws a measure, a condition and two times.
func someRange(d sample.Draw, m *model) (measure, cond string, from, to int64) {
	measure = sample.One(d, m.tables()...).Measure
	from, to = int64(d(60)-30), int64(d(60)-30)
	if from > to && d(4) > 0 {
		from, to = to, from
	}
	if d(8) == 0 {
		from, to = math.MinInt64, math.MaxInt64
	}
	switch d(16) {
	case 0:
		measure = sample.One(d, "nope", "")
	case 1:
		return measure, sample.One(d, "time > 5", "host = ", "nope = 'a'", "'a' = 'b' AND", " ", "TRUE"), from, to
	case 2, 3, 4, 5:
		return measure, sample.One(d, "host = 'a'", "NOT host IN ('a', '')", "zone = 'c d' OR host = 'b'", "zone != host"), from, to
	}
	return measure, "", from, to
}

// pair is an engine and what it must be.
type pair struct {
	e *Engine
	m *model
}

// tally is how often something was done, and refused, by what was called.
type tally map[string][2]int

func (c tally) add(what string, err error) {
	n := c[what]
	if err == nil {
		n[0]++
	} else {
		n[1]++
	}
	c[what] = n
}

// answers holds what a call answered against what it must.
func (c tally) answers(t *testing.T, what string, asked, got any, err error, want any, no error) {
	t.Helper()
	like(t, fmt.Sprintf("%s %+v", what, asked), err, no)
	is(t, fmt.Sprintf("%s %+v", what, asked), got, want)
	c.add(what, no)
}

// change makes a call that may change something.
func (p pair) change(t *testing.T, d sample.Draw, c tally) {
	t.Helper()
	switch kind := d(20); {
	case kind < 4:
		text := someText(d, p.m)
		n, err := p.e.Register(text)
		want, no := p.m.register(text)
		c.answers(t, "Register", text, n, err, want, no)
	case kind < 12:
		odd := d(4) == 0
		l := sample.Some(d(6), func() api.Point { return somePoint(d, p.m, odd) })
		if text, err := line.All(l); err == nil && d(2) > 0 {
			n, err := p.e.Write(text)
			want, no := p.m.write(text)
			c.answers(t, "Write", text, n, err, want, no)
			return
		}
		n, err := p.e.Points(l)
		want, no := p.m.take(l)
		c.answers(t, "Points", l, n, err, want, no)
	case kind < 15:
		measure, cond, from, to := someRange(d, p.m)
		n, err := p.e.Delete(measure, cond, from, to)
		want, no := p.m.delete(measure, cond, from, to)
		c.answers(t, "Delete", []any{measure, cond, from, to}, n, err, want, no)
	case kind < 17:
		measure := sample.One(d, append([]api.Table{{Measure: "nope"}}, p.m.tables()...)...).Measure
		at := sample.One(d, int64(d(30)-20), p.m.horizon(measure), p.m.horizon(measure)+int64(d(9)), -api.MaxTime, -api.MaxTime-1, api.MaxTime+1)
		if edges := p.m.edges(measure); len(edges) > 0 && d(4) > 0 {
			at = sample.One(d, edges...)
		}
		n, err := p.e.Expire(measure, at)
		want, no := p.m.expire(measure, at)
		c.answers(t, "Expire", []any{measure, at}, n, err, want, no)
	case kind < 18:
		id := d(p.m.last + 2)
		c.answers(t, "Drop", id, nil, p.e.Drop(id), nil, p.m.drop(id))
	case kind < 19:
		p.m.plain = d(2) > 0
		p.e.Plain(p.m.plain)
	}
}

// edges are times to which a measure may expire, as far as its readers are asked.
func (m *model) edges(measure string) []int64 {
	var l []int64
	for at := int64(-25); at < 10; at++ {
		begins := func(q asked) bool { return (at-q.query.Offset)%q.query.Every == 0 }
		if !slices.ContainsFunc(m.queries, func(q asked) bool { return q.query.From.Text == measure && !begins(q) }) {
			l = append(l, at)
		}
	}
	return l
}

// asks makes a call that changes nothing.
func (p pair) asks(t *testing.T, d sample.Draw, c tally) {
	t.Helper()
	measure, cond, from, to := someRange(d, p.m)
	got, err := p.e.Read(measure, cond, from, to)
	want, no := p.m.read(measure, cond, from, to)
	c.answers(t, "Read", []any{measure, cond, from, to}, got, err, want, no)
	q := d.Asking(sample.One(d, p.m.tables()...), "")
	q.Fill = api.FillKind(d(3))
	text, err := ast.Print(q)
	if err != nil || d(8) == 0 {
		text = someText(d, p.m)
	}
	rows, err := p.e.Select(text)
	meant, no := p.m.choose(text)
	c.answers(t, "Select", text, rows, err, meant, no)
}

// P26.1 to P26.9, P26.11, P26.13 (E1, E4, E8, E11, E14): whatever the calls, each answers what it must, and leaves what it must;
// and an engine that was loaded, or forked, goes on so.
func TestAnyCalls(t *testing.T) {
	d := draw()
	c := tally{}
	levels, frozen := 0, 0
	rooms := [][2]int{{0, 0}, {6, 12}, {9, 25}, {14, 40}, {25, 60}, {40, 120}, {60, 200}, {api.MaxSeries, api.MaxPoints}, {api.MaxSeries, api.MaxPoints}}
	for i := range 90 {
		room := rooms[i%len(rooms)]
		p := pair{fresh(t, room[0], room[1]), modelOf(tables(), room[0], room[1])}
		for range 60 {
			p.change(t, d, c)
			p.asks(t, d, c)
			p.m.agrees(t, p.e)
			switch d(12) {
			case 0:
				e, err := Load(p.e.Save())
				well(t, "Load", err)
				p.e, p.m.steps = e, 0
			case 1:
				// What is left behind goes its own way.
				other := pair{p.e, p.m.fork()}
				p.e = p.e.Fork()
				other.change(t, d, c)
				other.m.agrees(t, other.e)
				p.m.agrees(t, p.e)
			}
			for _, q := range p.m.queries {
				levels = max(levels, p.m.level(q.query.Into.Text))
				frozen += len(q.frozen)
			}
		}
	}
	for _, what := range []string{"Register", "Write", "Points", "Delete", "Expire", "Drop", "Read", "Select"} {
		if n := c[what]; n[0] < 50 || n[1] < 20 {
			t.Errorf("%s was done %d times, and refused %d times", what, n[0], n[1])
		}
	}
	if levels < 4 || frozen < 1000 {
		t.Errorf("%d levels, %d frozen samples", levels, frozen)
	}
}

// P26.10 (E5, E6, E7): without Expire the targets hang on the tables' samples and on the queries alone.
func TestOnlyTheEndCounts(t *testing.T) {
	d := draw()
	rows := 0
	for range 60 {
		m := modelOf(tables(), api.MaxSeries, api.MaxPoints)
		early, late, plain := fresh(t, m.series, m.points), fresh(t, m.series, m.points), fresh(t, m.series, m.points)
		plain.Plain(true)
		var texts []string
		for range 6 {
			text := someText(d, m)
			if _, err := m.register(text); err == nil {
				texts = append(texts, text)
				register(t, early, text)
				register(t, plain, text)
			}
		}
		for range 12 {
			l := sample.Some(d(8), func() api.Point { return somePoint(d, m, false) })
			for _, e := range []*Engine{early, plain} {
				_, err := e.Points(l)
				well(t, l, err)
			}
			if d(3) == 0 {
				from := int64(d(60) - 30)
				for _, e := range []*Engine{early, plain} {
					_, err := e.Delete("cpu", "", from, from+10)
					well(t, "Delete", err)
				}
			}
			is(t, "plain or not", targetsOf(t, plain), targetsOf(t, early))
		}
		// The tables' samples come to the late one by another way, in another order, before any query.
		var all []api.Write
		for _, table := range tables() {
			l, err := early.Read(table.Measure, "", math.MinInt64, math.MaxInt64)
			well(t, table, err)
			all = append(all, l...)
		}
		for _, w := range sample.Shuffled(d, all) {
			p := api.Point{Measure: w.Series.Measure, Tags: w.Series.Tags, Fields: []api.Field{{Key: w.Series.Field, N: w.Sample.Value.N}}, Time: w.Sample.Time}
			wrong := p
			wrong.Fields = []api.Field{{Key: w.Series.Field, N: 77}}
			_, err := late.Points(sample.One(d, []api.Point{p}, []api.Point{wrong, p}))
			well(t, p, err)
		}
		for _, text := range texts {
			register(t, late, text)
		}
		is(t, "late or early", targetsOf(t, late), targetsOf(t, early))
		rows += len(targetsOf(t, late))
	}
	if rows < 1000 {
		t.Errorf("%d rows", rows)
	}
}

// targetsOf are the samples of all measures.
func targetsOf(t *testing.T, e *Engine) []api.Write {
	t.Helper()
	var l []api.Write
	for _, table := range e.Tables() {
		its, err := e.Read(table.Measure, "", math.MinInt64, math.MaxInt64)
		well(t, table, err)
		l = append(l, its...)
	}
	return l
}
