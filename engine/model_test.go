package engine

import (
	"cmp"
	"errors"
	"math"
	"slices"
	"testing"

	"weir/api"
	"weir/ast"
	"weir/batch"
	"weir/cell"
	"weir/check"
	"weir/code"
	"weir/fault"
	"weir/gen"
	"weir/key"
	"weir/line"
	"weir/norm"
	"weir/num"
	"weir/parse"
	"weir/plan"
	"weir/store"
	"weir/vm"
	"weir/wire"
)

// model is what an engine must be, by the words 'What an engine has': all that a target has is reckoned anew each time.
type model struct {
	schema         []api.Table
	series, points int
	samples        []api.Write // of the tables
	queries        []asked
	horizons       map[string]int64
	last           int
	plain          bool
	steps          int
}

// asked is a query that is registered.
type asked struct {
	number         int
	plain, expired bool
	text           string
	query          api.Query
	frozen         []api.Write
}

func modelOf(l []api.Table, series, points int) *model {
	return &model{schema: l, series: series, points: points, horizons: map[string]int64{}}
}

func (m *model) fork() *model {
	other := *m
	other.samples, other.queries, other.horizons = slices.Clone(m.samples), slices.Clone(m.queries), map[string]int64{}
	for measure, at := range m.horizons {
		other.horizons[measure] = at
	}
	return &other
}

func (m *model) horizon(measure string) int64 {
	if at, there := m.horizons[measure]; there {
		return at
	}
	return -api.MaxTime
}

func (m *model) tables() []api.Table {
	l := slices.Clone(m.schema)
	for _, q := range m.queries {
		t := api.Table{Measure: q.query.Into.Text}
		for _, group := range q.query.Groups {
			t.Tags = append(t.Tags, group.Text)
		}
		for _, item := range q.query.Items {
			t.Fields = append(t.Fields, item.Alias.Text)
		}
		l = append(l, t)
	}
	return l
}

// table is a measure's, if it is there.
func (m *model) table(measure string) (api.Table, bool) {
	l := m.tables()
	i := slices.IndexFunc(l, func(t api.Table) bool { return t.Measure == measure })
	if i < 0 {
		return api.Table{}, false
	}
	return l[i], true
}

// target is the number, from 0 on, of the query that has a target; -1: it is none.
func (m *model) target(measure string) int {
	return slices.IndexFunc(m.queries, func(q asked) bool { return q.query.Into.Text == measure })
}

// has are the samples of a measure, in order.
func (m *model) has(measure string) []api.Write {
	var l []api.Write
	if at := m.target(measure); at >= 0 {
		q := m.queries[at]
		rows, err := cell.Answer(q.query, m.has(q.query.From.Text))
		if err != nil {
			panic(err)
		}
		meant, err := cell.Writes(q.query, rows)
		if err != nil {
			panic(err)
		}
		l = batch.Merge(q.frozen, meant)
	} else {
		l = batch.Order(m.samples)
	}
	return slices.DeleteFunc(l, func(w api.Write) bool {
		return w.Series.Measure != measure || w.Sample.Time < m.horizon(measure)
	})
}

// all are the samples of all tables and targets.
func (m *model) all() []api.Write {
	var l []api.Write
	for _, t := range m.tables() {
		l = append(l, m.has(t.Measure)...)
	}
	return l
}

// count is how many series and samples there are.
func (m *model) count() (int, int) {
	names := map[string]int{}
	l := m.all()
	for _, w := range l {
		names[key.Print(w.Series)]++
	}
	return len(names), len(l)
}

// room tells whether there is room for all.
func (m *model) room() error {
	series, points := m.count()
	switch {
	case series > m.series:
		return fault.New(api.ErrSeries)
	case points > m.points:
		return fault.New(api.ErrPoints)
	}
	return nil
}

// program is a query's code.
func (q asked) program() (api.Plan, api.Program) {
	make := plan.Best
	if q.plain {
		make = plan.Plain
	}
	p, err := make(q.query)
	if err != nil {
		panic(err)
	}
	program, err := gen.Make(p)
	if err != nil {
		panic(err)
	}
	return p, program
}

// ran is how many instructions a query has run, when its source went from some samples to others: the filter for
// each delta of one of its fields, the output for each cell in which a number changed, if one is left in it.
// The second answer is how many there may be at most.
func (q asked) ran(from, to []api.Write, frozen int64) (int, int) {
	_, p := q.program()
	of := func(field string) bool {
		return slices.ContainsFunc(p.Accs, func(a api.Acc) bool { return a.Field == field })
	}
	cellOf := func(w api.Write) string {
		c, err := cell.Of(p.Every, p.Offset, p.Groups, w.Series.Tags, w.Sample.Time)
		if err != nil {
			panic(err)
		}
		return cell.Name(c)
	}
	left := map[string]int{}
	for _, w := range to {
		if holds, _, _ := vm.Match(p, w.Series.Tags, w.Sample.Time); holds && of(w.Series.Field) && w.Sample.Value.Kind == api.Int {
			left[cellOf(w)]++
		}
	}
	steps, most, touched := 0, 0, map[string]int{}
	for _, d := range between(from, to) {
		most += len(p.Filter) + len(p.Output)
		if !of(d.Series.Field) || d.Time < frozen {
			continue
		}
		holds, n, _ := vm.Match(p, d.Series.Tags, d.Time)
		steps += n
		number := d.Had && d.Old.Kind == api.Int || d.Has && d.New.Kind == api.Int
		if name := cellOf(api.Write{Series: d.Series, Sample: api.Sample{Time: d.Time}}); holds && number && left[name] > 0 {
			touched[name]++
		}
	}
	return steps + len(touched)*len(p.Output), most
}

// between are the deltas that lead from some samples to others.
func between(a, b []api.Write) []api.Delta {
	s, _ := store.New(api.MaxSeries, api.MaxPoints)
	if _, err := s.Write(a); err != nil {
		panic(err)
	}
	gone := slices.DeleteFunc(slices.Clone(a), func(w api.Write) bool {
		return slices.ContainsFunc(b, func(o api.Write) bool { return batch.Compare(w, o) == 0 })
	})
	l, err := s.Write(b)
	if err != nil {
		panic(err)
	}
	for _, w := range gone {
		l = append(l, api.Delta{Series: w.Series, Time: w.Sample.Time, Had: true, Old: w.Sample.Value})
	}
	return l
}

// become lets the model be another one, if there is room; steps are those of all queries that were there ahead.
func (m *model) become(next *model) error {
	if err := next.room(); err != nil {
		return err
	}
	next.steps = 0
	for _, q := range m.queries {
		n, most := q.ran(m.has(q.query.From.Text), next.has(q.query.From.Text), m.frozen(q))
		if n > most {
			panic("more steps than may be")
		}
		next.steps += n
	}
	*m = *next
	return nil
}

// frozen is the time up to which a query's source has expired since it was registered.
func (m *model) frozen(q asked) int64 {
	if q.expired {
		return m.horizon(q.query.From.Text)
	}
	return math.MinInt64
}

// level is how many queries stand above one another up to a measure.
func (m *model) level(measure string) int {
	at := m.target(measure)
	if at < 0 {
		return 0
	}
	return 1 + m.level(m.queries[at].query.From.Text)
}

func (m *model) register(text string) (int, error) {
	m.steps = 0
	read, err := parse.Query(text)
	if err != nil {
		return 0, err
	}
	q := asked{number: m.last + 1, plain: m.plain}
	if q.query, err = check.Query(m.tables(), read); err != nil {
		return 0, err
	}
	switch {
	case read.Into.Text == "":
		return 0, fault.New(api.ErrTarget)
	case len(m.queries) >= api.MaxOpen:
		return 0, fault.New(api.ErrFull)
	case m.level(read.From.Text) >= api.MaxLevels:
		return 0, fault.New(api.ErrLevel)
	}
	q.text, _ = ast.Print(read)
	next := m.fork()
	next.queries = append(next.queries, q)
	if err := next.room(); err != nil {
		return 0, err
	}
	next.last++
	next.steps, _ = q.ran(nil, m.has(read.From.Text), math.MinInt64)
	*m = *next
	return q.number, nil
}

// find is where the query of a number stands, from 0 on; -1: there is none.
func (m *model) find(id int) int {
	return slices.IndexFunc(m.queries, func(q asked) bool { return q.number == id })
}

func (m *model) drop(id int) error {
	m.steps = 0
	at := m.find(id)
	if at < 0 {
		return fault.New(api.ErrQuery)
	}
	target := m.queries[at].query.Into.Text
	if slices.ContainsFunc(m.queries, func(q asked) bool { return q.query.From.Text == target }) {
		return fault.New(api.ErrUsed)
	}
	m.queries = slices.Delete(slices.Clone(m.queries), at, at+1)
	delete(m.horizons, target)
	return nil
}

func (m *model) write(text string) (int, error) {
	m.steps = 0
	l, err := line.Parse(text)
	if err != nil {
		return 0, err
	}
	return m.take(l)
}

func (m *model) take(l []api.Point) (int, error) {
	m.steps = 0
	if len(l) > api.MaxBatch {
		return 0, fault.New(api.ErrLong)
	}
	for i, p := range l {
		if err := m.fits(p); err != nil {
			return 0, fault.In(i, err)
		}
	}
	next := m.fork()
	for _, p := range l {
		for _, f := range p.Fields {
			s := api.Series{Measure: p.Measure, Tags: key.Sort(p.Tags), Field: f.Key}
			next.samples = batch.Merge(next.samples, []api.Write{{Series: s, Sample: api.Sample{Time: p.Time, Value: api.Value{N: f.N}}}})
		}
	}
	return m.changed(next)
}

// changed is become, and how many samples of tables are others then.
func (m *model) changed(next *model) (int, error) {
	many := len(between(m.samples, next.samples))
	if err := m.become(next); err != nil {
		return 0, err
	}
	return many, nil
}

func (m *model) fits(p api.Point) error {
	if err := batch.Right(p); err != nil {
		return err
	}
	if m.target(p.Measure) >= 0 {
		return fault.New(api.ErrInto)
	}
	if err := check.Point(m.schema, p); err != nil {
		return err
	}
	if p.Time < m.horizon(p.Measure) {
		return fault.New(api.ErrOld)
	}
	return nil
}

// found are the samples of a measure that a condition and a range leave, and what is wrong with these.
func (m *model) found(t api.Table, cond string, from, to int64) ([]api.Write, error) {
	var tree []api.Node
	if cond != "" {
		var err error
		if tree, err = parse.Cond(cond); err != nil {
			return nil, err
		}
	}
	if err := check.Cond(t, tree); err != nil {
		return nil, err
	}
	if slices.ContainsFunc(tree, func(n api.Node) bool { return n.Op == api.OpClock || n.Op == api.OpTime }) {
		return nil, fault.New(api.ErrTree)
	}
	if from > to {
		return nil, fault.New(api.ErrRange)
	}
	return slices.DeleteFunc(m.has(t.Measure), func(w api.Write) bool {
		holds := len(tree) == 0
		if !holds {
			holds, _ = norm.Holds(tree, w.Series.Tags, 0)
		}
		return !holds || w.Sample.Time < from || w.Sample.Time >= to
	}), nil
}

func (m *model) delete(measure, cond string, from, to int64) (int, error) {
	m.steps = 0
	t, there := m.table(measure)
	switch {
	case !there:
		return 0, fault.New(api.ErrMeasure)
	case m.target(measure) >= 0:
		return 0, fault.New(api.ErrInto)
	}
	gone, err := m.found(t, cond, from, to)
	if err != nil {
		return 0, err
	}
	next := m.fork()
	next.samples = slices.DeleteFunc(next.samples, func(w api.Write) bool {
		return slices.ContainsFunc(gone, func(o api.Write) bool { return batch.Compare(w, o) == 0 })
	})
	return m.changed(next)
}

func (m *model) expire(measure string, at int64) (int, error) {
	m.steps = 0
	if _, there := m.table(measure); !there {
		return 0, fault.New(api.ErrMeasure)
	}
	if at < m.horizon(measure) || at > api.MaxTime {
		return 0, fault.New(api.ErrRange)
	}
	for _, q := range m.queries {
		if start, err := num.Window(at, q.query.Every, q.query.Offset); q.query.From.Text == measure && (err != nil || start != at) {
			return 0, fault.New(api.ErrEdge)
		}
	}
	next := m.fork()
	for i, q := range next.queries {
		if q.query.From.Text == measure {
			next.queries[i].expired = q.expired || at > -api.MaxTime
			next.queries[i].frozen = slices.DeleteFunc(m.has(q.query.Into.Text), func(w api.Write) bool { return w.Sample.Time >= at })
		}
	}
	if at > -api.MaxTime {
		next.horizons[measure] = at
	}
	many := len(m.has(measure)) - len(next.has(measure))
	next.samples = slices.DeleteFunc(next.samples, func(w api.Write) bool { return w.Sample.Time < next.horizon(w.Series.Measure) })
	*m = *next
	return many, nil
}

func (m *model) read(measure, cond string, from, to int64) ([]api.Write, error) {
	t, there := m.table(measure)
	if !there {
		return nil, fault.New(api.ErrMeasure)
	}
	return m.found(t, cond, from, to)
}

func (m *model) choose(text string) ([]api.Row, error) {
	read, err := parse.Query(text)
	if err != nil {
		return nil, err
	}
	q, err := check.Query(m.tables(), read)
	if err != nil {
		return nil, err
	}
	if read.Into.Text != "" {
		return nil, fault.At(read.Into.Pos, api.ErrTarget)
	}
	rows, err := cell.Answer(q, m.has(read.From.Text))
	if err != nil {
		return nil, err
	}
	if rows, err = cell.Fill(q, rows); err == nil && len(rows) > api.MaxRows {
		return nil, fault.New(api.ErrLong)
	}
	return rows, err
}

// image is what an engine's bytes say.
type image struct {
	schema         string
	series, points uint64
	plain          byte
	last           uint64
	queries        []queryImage
	horizons       []horizonImage
	store          []byte
}

type queryImage struct {
	number         uint64
	plain, expired byte
	text           string
}

type horizonImage struct {
	measure string
	at      int64
}

// bytes are those of an image, as the chapter has them.
func (i image) bytes() []byte {
	var w wire.Writer
	w.Text(i.schema)
	w.Uint(i.series)
	w.Uint(i.points)
	w.Byte(i.plain)
	w.Uint(i.last)
	w.Uint(uint64(len(i.queries)))
	for _, q := range i.queries {
		w.Uint(q.number)
		w.Byte(q.plain)
		w.Byte(q.expired)
		w.Text(q.text)
	}
	w.Uint(uint64(len(i.horizons)))
	for _, h := range i.horizons {
		w.Text(h.measure)
		w.Int(h.at)
	}
	w.Raw(i.store)
	return w.Bytes()
}

// storeOf are a store's bytes.
func storeOf(l []api.Write) []byte {
	s, _ := store.New(api.MaxSeries, api.MaxPoints)
	if _, err := s.Write(l); err != nil {
		panic(err)
	}
	return s.Save()
}

func bit(so bool) byte { return map[bool]byte{true: 1}[so] }

// image is the model's.
func (m *model) image() image {
	text, err := check.Print(m.schema)
	if err != nil {
		panic(err)
	}
	i := image{schema: text, series: uint64(m.series), points: uint64(m.points), plain: bit(m.plain), last: uint64(m.last), store: storeOf(m.all())}
	for _, q := range m.queries {
		i.queries = append(i.queries, queryImage{uint64(q.number), bit(q.plain), bit(q.expired), q.text})
	}
	for measure, at := range m.horizons {
		i.horizons = append(i.horizons, horizonImage{measure, at})
	}
	slices.SortFunc(i.horizons, func(a, b horizonImage) int { return cmp.Compare(a.measure, b.measure) })
	return i
}

// agrees asks an engine all that can be asked, and holds it against what it must be.
func (m *model) agrees(t *testing.T, e *Engine) {
	t.Helper()
	for _, table := range m.tables() {
		got, err := e.Read(table.Measure, "", math.MinInt64, math.MaxInt64)
		well(t, table, err)
		is(t, "Read of "+table.Measure, got, m.has(table.Measure))
		at, err := e.Horizon(table.Measure)
		well(t, table, err)
		is(t, "Horizon of "+table.Measure, at, m.horizon(table.Measure))
	}
	is(t, "Tables", e.Tables(), m.tables())
	series, points := e.Count()
	wantSeries, wantPoints := m.count()
	is(t, "Count", []int{series, points}, []int{wantSeries, wantPoints})
	is(t, "Steps", e.Steps(), m.steps)
	is(t, "Save", e.Save(), m.image().bytes())
	var numbers []int
	for _, q := range m.queries {
		numbers = append(numbers, q.number)
		text, err := e.Text(q.number)
		well(t, q, err)
		is(t, "Text", text, q.text)
		p, program := q.program()
		explained, err := plan.Explain(p)
		listed, none := code.List(program)
		well(t, q, errors.Join(err, none))
		told, err := e.Explain(q.number)
		well(t, q, err)
		is(t, "Explain", told, explained+listed)
	}
	is(t, "Queries", e.Queries(), numbers)
	if _, err := e.Text(m.last + 1); fault.Code(err) != api.ErrQuery {
		t.Fatalf("Text of none: %v", err)
	}
}
