package engine

import (
	"slices"

	"weir/api"
	"weir/cell"
	"weir/cq"
	"weir/plan"
)

// query is one that is registered.
type query struct {
	number  int
	level   int
	text    string    // as it is printed
	asked   api.Query // each item with its name
	plain   bool
	expired bool // its source was, to a time above the first of all, since it was registered
	live    *cq.Query
}

// plan is what is done for it.
func (q *query) plan() (api.Plan, error) { return planned(q.asked, q.plain) }

// planned is what is done for a query, as it stands or not.
func planned(asked api.Query, plain bool) (api.Plan, error) {
	if plain {
		return plan.Plain(asked)
	}
	return plan.Best(asked)
}

func (q *query) source() string { return q.asked.From.Text }

func (q *query) target() string { return q.asked.Into.Text }

// begins tells whether one of its windows begins at a time.
func (q *query) begins(t int64) bool {
	c, err := cell.Of(q.asked.Every, q.asked.Offset, nil, nil, t)
	return err == nil && c.Start == t
}

// roll is queries in the order in which they were registered: so each stands behind the one whose target it reads.
type roll struct {
	list    []*query
	numbers map[int]*query
	targets map[string]*query
}

func newRoll() roll { return roll{numbers: map[int]*query{}, targets: map[string]*query{}} }

func (r *roll) fork() roll {
	other := newRoll()
	for _, q := range r.list {
		same := *q
		same.live = q.live.Fork()
		other.add(&same)
	}
	return other
}

func (r *roll) add(q *query) {
	r.list = append(r.list, q)
	r.numbers[q.number], r.targets[q.target()] = q, q
}

func (r *roll) remove(q *query) {
	r.list = slices.DeleteFunc(r.list, func(other *query) bool { return other == q })
	delete(r.numbers, q.number)
	delete(r.targets, q.target())
}

// readers are the queries that read a measure.
func (r *roll) readers(measure string) []*query {
	var l []*query
	for _, q := range r.list {
		if q.source() == measure {
			l = append(l, q)
		}
	}
	return l
}
