package cell

import (
	"slices"

	"weir/api"
	"weir/ast"
	"weir/batch"
	"weir/norm"
	"weir/reckon"
)

// Answer is what a query tells of samples.
func Answer(q api.Query, l []api.Write) ([]api.Row, error) {
	if err := ast.Right(q); err != nil {
		return nil, err
	}
	cells, err := gather(q, batch.Order(from(q.From.Text, l)))
	if err != nil {
		return nil, err
	}
	slices.SortFunc(cells, func(a, b *content) int { return Compare(a.cell, b.cell) })
	var rows []api.Row
	for _, c := range cells {
		if items := c.items(q.Items); slices.ContainsFunc(items, tells) {
			rows = append(rows, api.Row{Cell: c.cell, Items: items})
		}
	}
	return rows, nil
}

// from are the samples of a measure.
func from(measure string, l []api.Write) []api.Write {
	var its []api.Write
	for _, w := range l {
		if w.Series.Measure == measure {
			its = append(its, w)
		}
	}
	return its
}

// content is what lies in a cell: the numbers of each field.
type content struct {
	cell   api.Cell
	fields map[string]*numbers
}

// gather lays the samples that count into their cells: those in which one lies are answered.
func gather(q api.Query, l []api.Write) ([]*content, error) {
	var cells []*content
	named, groups := map[string]*content{}, groupNames(q)
	for _, w := range l {
		if !counts(q, w) {
			continue
		}
		c, err := Of(q.Every, q.Offset, groups, w.Series.Tags, w.Sample.Time)
		if err != nil {
			return nil, err
		}
		name := Name(c)
		if named[name] == nil {
			named[name] = &content{c, map[string]*numbers{}}
			cells = append(cells, named[name])
		}
		named[name].take(w)
	}
	return cells, nil
}

// groupNames are the tags by which a query groups.
func groupNames(q api.Query) []string {
	var names []string
	for _, group := range q.Groups {
		names = append(names, group.Text)
	}
	return names
}

// counts tells whether a sample plays a part in what a query means.
func counts(q api.Query, w api.Write) bool {
	if w.Sample.Value.Kind != api.Int {
		return false
	}
	if len(q.Where) == 0 {
		return true
	}
	// The condition of a right query is right.
	holds, _ := norm.Holds(q.Where, w.Series.Tags, w.Sample.Time)
	return holds
}

func (c *content) take(w api.Write) {
	field := w.Series.Field
	if c.fields[field] == nil {
		c.fields[field] = &numbers{}
	}
	c.fields[field].take(w.Sample.Time, w.Sample.Value.N)
}

// items is what each item tells of a cell.
func (c *content) items(l []api.Item) []api.Told {
	told := make([]api.Told, len(l))
	for i, item := range l {
		told[i] = c.sum(item.Tree)
	}
	return told
}

// sum is what a right sum tells of a cell. It is gone through from its end on,
// so that of each node what the kids tell is there: the last one is the first kid's.
func (c *content) sum(l []api.Node) api.Told {
	operators := operators()
	var told []api.Told
	for _, n := range slices.Backward(l) {
		switch last := len(told) - 1; n.Op {
		case api.OpInt:
			told = append(told, reckon.Int(n.N))
		case api.OpCall:
			told = append(told, c.call(n))
		case api.OpNeg:
			told[last] = reckon.Neg(told[last])
		default:
			told[last-1] = operators[n.Op](told[last], told[last-1])
			told = told[:last]
		}
	}
	return told[0]
}

// operators are what is reckoned of two operands.
func operators() [api.OpMod + 1]func(a, b api.Told) api.Told {
	return [...]func(a, b api.Told) api.Told{
		api.OpAdd: reckon.Add, api.OpSub: reckon.Sub, api.OpMul: reckon.Mul, api.OpDiv: reckon.Div, api.OpMod: reckon.Mod,
	}
}

// call is what a function tells of a field: nothing, if no number of it is there.
func (c *content) call(n api.Node) api.Told {
	its := c.fields[n.S]
	if its == nil {
		return api.Told{}
	}
	return its.functions()[n.Func]()
}

func tells(one api.Told) bool { return one.Some }
