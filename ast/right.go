package ast

import (
	"math"

	"weir/api"
	"weir/fault"
	"weir/funcs"
	"weir/key"
)

// clock is the name that conditions have for the time: nothing else is called so.
const clock = "time"

// kind is what a node is, or several of these, where any of them may stand.
type kind uint8

const (
	sum kind = 1 << iota
	condition
	tag
	word
	moment // the time, or a number that is one
)

// shape is what a node is, what its kids are, and how many of them there are.
type shape struct {
	is, kids    kind
	least, most int
}

var shapes = [...]shape{
	api.OpInt:   {is: sum},
	api.OpCall:  {is: sum},
	api.OpNeg:   {sum, sum, 1, 1},
	api.OpAdd:   {sum, sum, 2, 2},
	api.OpSub:   {sum, sum, 2, 2},
	api.OpMul:   {sum, sum, 2, 2},
	api.OpDiv:   {sum, sum, 2, 2},
	api.OpMod:   {sum, sum, 2, 2},
	api.OpTrue:  {is: condition},
	api.OpFalse: {is: condition},
	api.OpNot:   {condition, condition, 1, 1},
	api.OpAnd:   {condition, condition, 2, math.MaxInt},
	api.OpOr:    {condition, condition, 2, math.MaxInt},
	api.OpEq:    {condition, tag | word | moment, 2, 2},
	api.OpNe:    {condition, tag | word | moment, 2, 2},
	api.OpLt:    {condition, moment, 2, 2},
	api.OpLe:    {condition, moment, 2, 2},
	api.OpGt:    {condition, moment, 2, 2},
	api.OpGe:    {condition, moment, 2, 2},
	api.OpIn:    {condition, tag | word, 2, 1 + api.MaxIn},
	api.OpTag:   {is: tag},
	api.OpText:  {is: word},
	api.OpClock: {is: moment},
	api.OpTime:  {is: moment},
}

// shapeOf is the shape of a node; of one that stands in no right tree it is nothing.
func shapeOf(n api.Node) shape {
	if int(n.Op) >= len(shapes) {
		return shape{}
	}
	return shapes[n.Op]
}

// tree tells what is wrong with a tree that must be of a kind.
func tree(l []api.Node, k kind) error {
	right, levels := true, 0
	end := walk(l, 0, func(at, parent, level int) {
		// What a node's kids may be is asked of right nodes alone.
		right = right && fits(l[at], kidOf(l, parent, at, k))
		levels = max(levels, level)
	})
	switch {
	case !right || end == nowhere || end != len(l):
		return fault.New(api.ErrTree)
	case levels > api.MaxDeep:
		return fault.New(api.ErrDeep)
	}
	return nil
}

// kidOf is what the node at a place may be: the topmost one of the kind that the tree must be.
func kidOf(l []api.Node, parent, at int, topmost kind) kind {
	if parent == root {
		return topmost
	}
	may, first := shapeOf(l[parent]).kids, parent+1
	if at == first {
		return may
	}
	switch l[parent].Op {
	case api.OpEq, api.OpNe:
		if shapeOf(l[first]).is == moment {
			return moment
		}
		return tag | word
	case api.OpIn:
		return word
	}
	return may
}

// fits tells whether a node by itself is right, and of a kind.
func fits(n api.Node, k kind) bool {
	s := shapeOf(n)
	return s.is&k != 0 && s.least <= n.Kids && n.Kids <= s.most && says(n)
}

// says tells whether a node has in its fields what it needs, and nothing beside that.
func says(n api.Node) bool {
	right := true
	rest := n
	rest.Op, rest.Kids, rest.Pos = 0, 0, 0
	switch n.Op {
	case api.OpInt, api.OpTime:
		right = number(n.N)
		rest.N = 0
	case api.OpCall:
		right = funcs.Name(n.Func) != "" && column(n.S)
		rest.Func, rest.S = 0, ""
	case api.OpTag:
		right = column(n.S)
		rest.S = ""
	case api.OpText:
		right = n.S == "" || key.Text(n.S) == nil
		rest.S = ""
	}
	return right && rest == api.Node{}
}

// number tells whether a text has a way to say a number: the least one has no opposite.
func number(n int64) bool { return n > math.MinInt64 }

// column tells whether a field, a tag or an item may be called so.
func column(s string) bool { return s != clock && key.Name(s) == nil }

// parts tells what is wrong with a query but for the length of its text.
func parts(q api.Query) error {
	switch {
	case len(q.Items) == 0:
		return fault.New(api.ErrTree)
	case len(q.Items) > api.MaxFields || len(q.Groups) > api.MaxTags:
		return fault.New(api.ErrLong)
	}
	for i, item := range q.Items {
		if err := selected(item); err != nil {
			return fault.In(i, err)
		}
	}
	if q.Into.Text != "" && key.Name(q.Into.Text) != nil || key.Name(q.From.Text) != nil {
		return fault.New(api.ErrName)
	}
	if len(q.Where) > 0 {
		if err := Cond(q.Where); err != nil {
			return err
		}
	}
	return cells(q)
}

// selected tells what is wrong with an item.
func selected(item api.Item) error {
	if err := Sum(item.Tree); err != nil {
		return err
	}
	if alias := item.Alias.Text; alias != "" && !column(alias) {
		return fault.New(api.ErrName)
	}
	return nil
}

// cells tells what is wrong with a query's windows and groups, and with how empty ones are filled.
func cells(q api.Query) error {
	if q.Every < 1 || q.Every > api.MaxEvery || q.Offset < 0 || q.Offset >= q.Every {
		return fault.New(api.ErrEvery)
	}
	for _, group := range q.Groups {
		if !column(group.Text) {
			return fault.New(api.ErrName)
		}
	}
	if q.Fill > api.FillWith || q.Fill != api.FillWith && q.FillN != 0 || !number(q.FillN) {
		return fault.New(api.ErrFill)
	}
	return nil
}
