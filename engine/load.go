package engine

import (
	"slices"

	"weir/api"
	"weir/batch"
	"weir/check"
	"weir/fault"
	"weir/store"
	"weir/wire"
)

// mostUint is how great a number in an engine's bytes may be.
const mostUint = 1 << 40

// saved is what an engine's bytes say, whatever that is.
type saved struct {
	schema         string
	series, points int
	plain          byte
	last           int
	queries        []savedQuery
	horizons       []savedHorizon
	store          []byte
}

type savedQuery struct {
	number         int
	plain, expired byte
	text           string
}

type savedHorizon struct {
	measure string
	time    int64
}

// Load reads one.
func Load(b []byte) (*Engine, error) {
	s, err := read(b)
	if err != nil {
		return nil, err
	}
	e, right := s.engine()
	if !right {
		return nil, fault.New(api.ErrForm)
	}
	return e, nil
}

// read cuts bytes into what they say.
func read(b []byte) (saved, error) {
	r := wire.NewReader(b)
	number := func() int { return int(r.Uint(mostUint)) }
	text := func() string { return r.Text(api.MaxFrame) }
	s := saved{schema: text(), series: number(), points: number(), plain: r.Byte(), last: number()}
	// There may be said to be very many of something; the bytes have their end all the same.
	for left := number(); left > 0 && r.Fault() == nil; left-- {
		s.queries = append(s.queries, savedQuery{number: number(), plain: r.Byte(), expired: r.Byte(), text: text()})
	}
	for left := number(); left > 0 && r.Fault() == nil; left-- {
		s.horizons = append(s.horizons, savedHorizon{measure: text(), time: r.Int()})
	}
	s.store = r.Raw(api.MaxFrame)
	return s, r.Done()
}

// engine is the one that was saved, if there is one.
func (s saved) engine() (*Engine, bool) {
	tables, err := check.Parse(s.schema)
	if err != nil {
		return nil, false
	}
	e, err := New(tables, s.series, s.points)
	if err != nil {
		return nil, false
	}
	e.plain, e.last = s.plain == 1, s.last
	right := s.plain <= 1 && e.takeQueries(s.queries) && e.takeHorizons(s.horizons) && e.takeStore(s.store)
	if !right {
		return nil, false
	}
	return e, true
}

// takeQueries registers queries, to which nothing comes yet.
func (e *Engine) takeQueries(l []savedQuery) bool {
	ahead := 0
	for _, s := range l {
		if s.plain > 1 || s.expired > 1 || s.number <= ahead || s.number > e.last {
			return false
		}
		q, err := e.made(s.text, s.plain == 1)
		if err != nil || q.text != s.text {
			return false
		}
		q.number, q.expired = s.number, s.expired == 1
		e.queries.add(q)
		ahead = s.number
	}
	return true
}

// takeHorizons lets measures have their horizons, which must suit the queries.
func (e *Engine) takeHorizons(l []savedHorizon) bool {
	for i, s := range l {
		_, err := e.table(s.measure)
		rises := i == 0 || l[i-1].measure < s.measure
		if err != nil || !rises || s.time <= -api.MaxTime || s.time > api.MaxTime {
			return false
		}
		e.horizons[s.measure] = s.time
	}
	return !slices.ContainsFunc(e.queries.list, func(q *query) bool {
		t, risen := e.horizons[q.source()]
		return q.expired && !(risen && q.begins(t))
	})
}

// takeStore lets the samples be there, of which the queries must mean what their targets have.
func (e *Engine) takeStore(b []byte) bool {
	kept, err := store.Load(b, e.room.series, e.room.points)
	if err != nil {
		return false
	}
	e.store = kept
	if !e.sound() {
		return false
	}
	for _, q := range e.queries.list {
		if !e.goOn(q) {
			return false
		}
	}
	return true
}

// sound tells whether all samples are such as tables and targets may have.
func (e *Engine) sound() bool {
	seen := 0
	for _, t := range e.Tables() {
		l := e.all(t.Measure)
		seen += len(l)
		q := e.queries.targets[t.Measure]
		first := e.horizon(t.Measure)
		wrong := slices.ContainsFunc(l, func(w api.Write) bool {
			return w.Sample.Time < first || !shaped(t, w.Series) || q == nil && !counted(w.Sample) || q != nil && !q.begins(w.Sample.Time)
		})
		if wrong {
			return false
		}
	}
	// What was not seen is of no measure that is there, or at the last of all times.
	_, points := e.store.Count()
	return seen == points
}

// shaped tells whether a series has tags and a field of a table.
func shaped(t api.Table, s api.Series) bool {
	foreign := slices.ContainsFunc(s.Tags, func(tag api.Tag) bool { return !slices.Contains(t.Tags, tag.Key) })
	return !foreign && slices.Contains(t.Fields, s.Field)
}

// counted tells whether a sample is such as a point brings.
func counted(s api.Sample) bool { return s.Value.Kind == api.Int && s.Time <= api.MaxTime }

// goOn lets all that its source has come to a query, and tells whether its target is what it means of that.
func (e *Engine) goOn(q *query) bool {
	if _, _, err := q.live.Apply(come(e.all(q.source()))); err != nil {
		return false
	}
	first := e.horizon(q.target())
	if q.expired {
		t := e.horizon(q.source())
		q.live.Freeze(t)
		first = max(first, t)
	}
	return slices.EqualFunc(since(first, q.live.Rows()), since(first, e.all(q.target())), same)
}

// since are the samples that do not lie ahead of a time.
func since(t int64, l []api.Write) []api.Write {
	return slices.DeleteFunc(l, func(w api.Write) bool { return w.Sample.Time < t })
}

func same(a, b api.Write) bool {
	return batch.Compare(a, b) == 0 && a.Sample.Value == b.Sample.Value
}
