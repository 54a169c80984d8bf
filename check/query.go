package check

import (
	"slices"

	"weir/api"
	"weir/ast"
	"weir/fault"
	"weir/funcs"
)

// queryLooks are what is looked at in a query, of which whole has each item with its name.
func queryLooks(l []api.Table, q, whole api.Query) []look {
	var source api.Table
	into := q.Into.Text != ""
	return []look{
		func() error { return ast.Right(q) },
		func() (err error) {
			source, err = find(l, q.From.Text)
			return fault.At(q.From.Pos, fault.Code(err))
		},
		func() error { return fault.At(q.Into.Pos, when(into && there(l, q.Into.Text), api.ErrTarget)) },
		func() error { return items(source, whole.Items) },
		func() error { return known(source.Tags, q.Where, api.OpTag) },
		func() error { return groups(source, q.Groups) },
		func() error { return fault.At(q.FillPos, when(into && q.Fill != api.NoFill, api.ErrFill)) },
		// All else is right by now: it is the names that may make the text too long.
		func() error { return ast.Right(whole) },
	}
}

// named is a query, in memory of its own, with each item's name as its alias.
func named(q api.Query) api.Query {
	q = ast.Copy(q)
	for i, item := range q.Items {
		if item.Alias.Text == "" {
			q.Items[i].Alias = api.Label{Text: name(item), Pos: item.Pos}
		}
	}
	return q
}

// name is what an item is called; empty, if it has no name.
func name(item api.Item) string {
	if item.Alias.Text != "" {
		return item.Alias.Text
	}
	if len(item.Tree) != 1 || item.Tree[0].Op != api.OpCall {
		return ""
	}
	call := item.Tree[0]
	return funcs.Name(call.Func) + "_" + call.S
}

// items tells what is wrong with items that have their names as aliases.
func items(source api.Table, l []api.Item) error {
	for i, item := range l {
		if err := first(itemLooks(source, l[:i], item)); err != nil {
			return err
		}
	}
	return nil
}

// itemLooks are what is looked at in an item that stands behind others.
func itemLooks(source api.Table, ahead []api.Item, item api.Item) []look {
	alias := item.Alias.Text
	tell := func(so bool, e api.Errno) error { return fault.At(item.Pos, when(so, e)) }
	return []look{
		func() error { return known(source.Fields, item.Tree, api.OpCall) },
		func() error { return tell(len(ast.Calls(item.Tree)) == 0 || alias == "", api.ErrPlain) },
		func() error { return tell(!column(alias), api.ErrName) },
		func() error {
			return tell(slices.ContainsFunc(ahead, func(other api.Item) bool { return other.Alias.Text == alias }), api.ErrTwice)
		},
	}
}

// groups tells what is wrong with a query's groups.
func groups(source api.Table, l []api.Label) error {
	var ahead []string
	for _, group := range l {
		err := first([]look{
			func() error {
				return fault.At(group.Pos, when(!slices.Contains(source.Tags, group.Text), api.ErrColumn))
			},
			func() error { return fault.At(group.Pos, when(slices.Contains(ahead, group.Text), api.ErrTwice)) },
		})
		if err != nil {
			return err
		}
		ahead = append(ahead, group.Text)
	}
	return nil
}

// known tells of the nodes of a kind the first one that asks for another column than these.
func known(columns []string, l []api.Node, op api.Op) error {
	for _, n := range l {
		if n.Op == op && !slices.Contains(columns, n.S) {
			return fault.At(n.Pos, api.ErrColumn)
		}
	}
	return nil
}
