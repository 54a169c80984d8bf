package cq

import (
	"maps"

	"weir/acc"
	"weir/api"
	"weir/fault"
)

// content is what is kept of a cell.
type content struct {
	cell    api.Cell
	numbers map[place]int64 // which number is in the accumulators: these do not tell it
	accs    []*acc.Acc      // in the order of the program's
	row     []api.Told      // what is told of each item
}

// place is under what a number is kept: the series' key tells its field, too.
type place struct {
	series string
	time   int64
}

// number is what a sample puts into accumulators: those of its field.
type number struct {
	place
	field string
	n     int64
}

// fresh is a cell in which nothing lies, and of which nothing is told.
func fresh(c api.Cell, p api.Program) *content {
	f := &content{cell: c, numbers: map[place]int64{}, row: make([]api.Told, len(p.Aliases))}
	for _, of := range p.Accs {
		// The functions of a program that passes are such as accumulators have.
		one, _ := acc.New(of.Func)
		f.accs = append(f.accs, one)
	}
	return f
}

func (c *content) fork() *content {
	// What is told anew lies in a row of its own, and a cell's group stays as it is: both are shared.
	other := &content{cell: c.cell, numbers: maps.Clone(c.numbers), row: c.row}
	for _, one := range c.accs {
		other.accs = append(other.accs, one.Fork())
	}
	return other
}

// kept tells whether a number is kept.
func (c *content) kept() bool { return len(c.numbers) > 0 }

// letGo leaves the row alone.
func (c *content) letGo() { c.numbers, c.accs = nil, nil }

// put lets a number in, where none is of its series and time.
func (c *content) put(x number, of []api.Acc) error {
	if _, known := c.numbers[x.place]; known {
		return fault.New(api.ErrRange)
	}
	c.numbers[x.place] = x.n
	for i, one := range c.accs {
		if of[i].Field == x.field {
			one.Add(x.series, x.time, x.n)
		}
	}
	return nil
}

// take takes a number out that is in.
func (c *content) take(x number, of []api.Acc) error {
	if n, known := c.numbers[x.place]; !known || n != x.n {
		return fault.New(api.ErrRange)
	}
	delete(c.numbers, x.place)
	for i, one := range c.accs {
		if of[i].Field == x.field {
			one.Remove(x.series, x.time)
		}
	}
	return nil
}

// slots is what the accumulators tell a machine.
func (c *content) slots() []api.Slot {
	l := make([]api.Slot, len(c.accs))
	for i, one := range c.accs {
		l[i] = one.Slot()
	}
	return l
}
