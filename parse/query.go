package parse

import "weir/api"

func (r *reader) query() api.Query {
	var q api.Query
	r.must(r.word("select"))
	q.Items = r.items()
	if r.word("into") {
		q.Into = r.name()
	}
	r.must(r.word("from"))
	q.From = r.name()
	if r.word("where") {
		q.Where = r.tree(r.cond)
	}
	r.must(r.word("group"))
	r.must(r.word("by"))
	r.window(&q)
	q.Groups = r.groups()
	r.fill(&q)
	return q
}

func (r *reader) items() []api.Item {
	l := []api.Item{r.item()}
	for r.sign(",") {
		if first := r.token(); len(l) == api.MaxFields && begins(first) {
			giveUp(first.Pos, api.ErrLong)
		}
		l = append(l, r.item())
	}
	return l
}

func (r *reader) item() api.Item {
	item := api.Item{Pos: r.token().Pos}
	item.Tree = r.tree(r.sum)
	if r.word("as") {
		item.Alias = r.column()
	}
	return item
}

func (r *reader) window(q *api.Query) {
	r.must(r.word(clock))
	r.must(r.sign("("))
	every := r.span()
	if every.N < 1 || every.N > api.MaxEvery {
		giveUp(every.Pos, api.ErrEvery)
	}
	q.Every, q.EveryPos = every.N, every.Pos
	if r.sign(",") {
		offset := r.span()
		if offset.N >= every.N {
			giveUp(offset.Pos, api.ErrEvery)
		}
		q.Offset = offset.N
	}
	r.must(r.sign(")"))
}

func (r *reader) span() api.Token {
	r.must(r.token().Kind == api.Span)
	return r.pass()
}

func (r *reader) groups() []api.Label {
	var l []api.Label
	for r.sign(",") {
		group := r.column()
		if len(l) == api.MaxTags {
			giveUp(group.Pos, api.ErrLong)
		}
		l = append(l, group)
	}
	return l
}

func (r *reader) fill(q *api.Query) {
	place := r.token().Pos
	if !r.word("fill") {
		return
	}
	q.FillPos = place
	r.must(r.sign("("))
	if r.word("last") {
		q.Fill = api.FillLast
	} else {
		q.Fill, q.FillN = api.FillWith, r.number(api.Number)
	}
	r.must(r.sign(")"))
}
