package sample

import (
	"slices"

	"weir/api"
)

// Query draws a right query, but that its text may be too long.
func (d Draw) Query() api.Query {
	var q api.Query
	for range 1 + d(3) {
		q.Items = append(q.Items, api.Item{Tree: d.Sum(1 + d(4)), Alias: d.label("", d.Name()), Pos: d(99)})
	}
	q.Into, q.From = d.label("", "time", d.Name()), d.label("time", d.Name())
	q.Where = d.where()
	q.Every = One(d, 1, 2, 3600e9, 5400e9, api.MaxEvery, 1+int64(d(1<<40)))
	q.Offset = One(d, 0, q.Every-1, q.Every/2)
	for range d(3) {
		q.Groups = append(q.Groups, d.label(d.Name()))
	}
	q.Fill = api.FillKind(d(3))
	if q.Fill == api.FillWith {
		q.FillN = d.Number()
	}
	q.EveryPos, q.FillPos = d(99), d(99)
	return q
}

func (d Draw) label(texts ...string) api.Label { return api.Label{Text: One(d, texts...), Pos: d(99)} }

// where draws none, a condition, or one that may be too long for a query.
func (d Draw) where() []api.Node {
	switch kind := d(40); {
	case kind < 15:
		return nil
	case kind < 39:
		return d.Cond(1 + d(5))
	}
	return d.Joined(2+d(60), 5)
}

// About is a tree with names of a table, and with texts and numbers of which there are few, so that samples are spoken of.
func (d Draw) About(t api.Table, l []api.Node) []api.Node {
	for i := range l {
		n := &l[i]
		switch {
		case n.Op == api.OpCall:
			n.S = One(d, t.Fields...)
		case n.Op == api.OpTag && len(t.Tags) > 0:
			n.S = One(d, t.Tags...)
		case n.Op == api.OpText || n.Op == api.OpTag:
			n.Op, n.S = api.OpText, One(d, "", "a", "b")
		case n.Op == api.OpTime:
			n.N = One(d, int64(d(60)-30), d.Number())
		case n.Op == api.OpInt:
			n.N = One(d, int64(d(7)-3), int64(d(7)-3), d.Number())
		}
		n.Pos = d(99)
	}
	return l
}

// Asking draws a query over a table that fits it and has a target, but that its text may be too long.
func (d Draw) Asking(t api.Table, into string) api.Query {
	q := api.Query{Into: api.Label{Text: into}, From: api.Label{Text: t.Measure}, Every: One[int64](d, 1, 2, 7, 10, 25)}
	q.Offset = One(d, 0, 0, q.Every-1, q.Every/2)
	for i := range 1 + d(3) {
		tree := d.About(t, d.Sum(1+d(4)))
		if !slices.ContainsFunc(tree, func(n api.Node) bool { return n.Op == api.OpCall }) {
			tree = []api.Node{Call(api.Func(1+d(8)), One(d, t.Fields...))}
		}
		q.Items = append(q.Items, api.Item{Tree: tree, Alias: api.Label{Text: string(rune('a' + i))}})
	}
	if d(2) > 0 {
		q.Where = d.About(t, d.Cond(1+d(4)))
	}
	for _, tag := range t.Tags {
		if d(2) > 0 {
			q.Groups = append(q.Groups, api.Label{Text: tag})
		}
	}
	return q
}
