package cq

import (
	"cmp"
	"slices"

	"weir/api"
	"weir/cell"
	"weir/key"
	"weir/vm"
)

// attempt is a call of Apply, as long as a delta may come that does not fit.
type attempt struct {
	query   *Query
	done    []step
	touched map[string]*content // by the cells' names: where a number went in or out
	steps   int
}

// step is a change that was made, and can be taken back.
type step struct {
	undo func()
}

// giveUp takes back all that was done.
func (a *attempt) giveUp() {
	for _, one := range slices.Backward(a.done) {
		one.undo()
	}
}

// take does one delta.
func (a *attempt) take(d api.Delta) error {
	if err := key.Right(d.Series); err != nil {
		return err
	}
	q := a.query
	if !q.hears(d) {
		return nil
	}
	holds, steps, err := vm.Match(q.program, d.Series.Tags, d.Time)
	a.steps += steps
	if err != nil || !holds {
		return err
	}
	in, err := cell.Of(q.program.Every, q.program.Offset, q.program.Groups, d.Series.Tags, d.Time)
	if err != nil {
		return err
	}
	return a.move(in, d)
}

// hears tells whether a delta speaks to the program.
func (q *Query) hears(d api.Delta) bool {
	return d.Series.Measure == q.program.From && d.Time >= q.frozen &&
		slices.ContainsFunc(q.program.Accs, func(of api.Acc) bool { return of.Field == d.Series.Field })
}

// move takes the number out of a cell that a delta had, and lets the one in that it has.
func (a *attempt) move(in api.Cell, d api.Delta) error {
	x := number{place: place{series: key.Print(d.Series), time: d.Time}, field: d.Series.Field}
	name := cell.Name(in)
	if d.Had && d.Old.Kind == api.Int {
		x.n = d.Old.N
		if err := a.do(name, in, x, (*content).take, (*content).put); err != nil {
			return err
		}
	}
	if d.Has && d.New.Kind == api.Int {
		x.n = d.New.N
		return a.do(name, in, x, (*content).put, (*content).take)
	}
	return nil
}

// deed is what is done with a number in a cell.
type deed func(*content, number, []api.Acc) error

// do does something with a number, and keeps how it is undone. A cell in which no number is left
// stays till all is done: the row that was told of it is asked then.
func (a *attempt) do(name string, in api.Cell, x number, forth, back deed) error {
	q := a.query
	c := q.cells[name]
	if c == nil {
		c = fresh(in, q.program)
	}
	if err := forth(c, x, q.program.Accs); err != nil {
		return err
	}
	q.cells[name], a.touched[name] = c, c
	a.done = append(a.done, step{undo: func() {
		// The opposite of what was done last always fits.
		back(c, x, q.program.Accs)
		q.settle(name, c)
	}})
	return nil
}

// settle lets a cell be there, if a number is in it.
func (q *Query) settle(name string, c *content) {
	if c.kept() {
		q.cells[name] = c
	} else {
		delete(q.cells, name)
	}
}

// tell lets the rows of all cells that were touched be told anew, and answers what has become of the target.
func (a *attempt) tell() []api.Delta {
	var l []api.Delta
	q := a.query
	for _, c := range inOrder(a.touched) {
		told, steps := q.tell(c)
		a.steps += steps
		for i, now := range told {
			if was := c.row[i]; was != now {
				l = append(l, api.Delta{
					Series: q.series(c.cell, i), Time: c.cell.Start,
					Had: was.Some, Old: was.Value, Has: now.Some, New: now.Value,
				})
			}
		}
		c.row = told
		q.settle(cell.Name(c.cell), c)
	}
	slices.SortFunc(l, func(a, b api.Delta) int {
		return cmp.Or(key.Compare(a.Series, b.Series), cmp.Compare(a.Time, b.Time))
	})
	return l
}

// tell is what is told of each item of a cell, and how many instructions that took.
func (q *Query) tell(c *content) ([]api.Told, int) {
	if !c.kept() {
		return make([]api.Told, len(q.program.Aliases)), 0
	}
	// Code that passes does not go wrong with as many slots as there are accumulators.
	told, steps, _ := vm.Tell(q.program, c.slots())
	return told, steps
}

// series is that of an item's samples in a cell.
func (q *Query) series(c api.Cell, item int) api.Series {
	return api.Series{Measure: q.program.Into, Tags: key.Join(q.program.Groups, c.Group), Field: q.program.Aliases[item]}
}
