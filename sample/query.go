package sample

import "weir/api"

// Query draws a right query, but that its text may be too long.
func (d Draw) Query() api.Query {
	var q api.Query
	for range 1 + d(3) {
		q.Items = append(q.Items, api.Item{Tree: d.Sum(1 + d(4)), Alias: d.label("", d.Name()), Pos: d(99)})
	}
	q.Into, q.From = d.label("", "time", d.Name()), d.label("time", d.Name())
	q.Where = d.where()
	q.Every = One(d, 1, 2, 3600e9, 5400e9, api.MaxEvery, 1+int64(d(1<<40)))
	q.Offset = One(d, 0, q.Every-1, q.Every/2)
	for range d(3) {
		q.Groups = append(q.Groups, d.label(d.Name()))
	}
	q.Fill = api.FillKind(d(3))
	if q.Fill == api.FillWith {
		q.FillN = d.Number()
	}
	q.EveryPos, q.FillPos = d(99), d(99)
	return q
}

func (d Draw) label(texts ...string) api.Label { return api.Label{Text: One(d, texts...), Pos: d(99)} }

// where draws none, a condition, or one that may be too long for a query.
func (d Draw) where() []api.Node {
	switch kind := d(40); {
	case kind < 15:
		return nil
	case kind < 39:
		return d.Cond(1 + d(5))
	}
	return d.Joined(2+d(60), 5)
}
