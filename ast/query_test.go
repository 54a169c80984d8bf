package ast

import (
	"math"
	"reflect"
	"slices"
	"strconv"
	"strings"
	"testing"

	"weir/api"
	"weir/expect"
	"weir/lex"
	"weir/sample"
	"weir/span"
)

// asked is a right query, with something in each of its parts.
func asked() api.Query {
	return api.Query{
		Items: []api.Item{
			{Tree: []api.Node{sample.Call(api.Mean, "v")}, Alias: api.Label{Text: "m"}},
			{Tree: []api.Node{sample.Node(api.OpNeg, 1), sample.Call(api.Max, "w")}},
		},
		Into: api.Label{Text: "hourly"}, From: api.Label{Text: "cpu"},
		Where: sample.Above(api.OpEq, sample.Tag("host"), sample.Text("a")),
		Every: 3600e9, Offset: 300e9, Groups: []api.Label{{Text: "host"}, {Text: "zone"}}, Fill: api.FillWith, FillN: -1,
	}
}

// queryText is a query's text as the chapter tells it.
func queryText(q api.Query) string {
	var items, cells []string
	for _, item := range q.Items {
		g := sample.Grown(item.Tree)
		s := sumText(g)
		if item.Alias.Text != "" {
			s += " AS " + lex.Quote(item.Alias.Text)
		}
		items = append(items, s)
	}
	parts := []string{"SELECT", strings.Join(items, ", ")}
	if q.Into.Text != "" {
		parts = append(parts, "INTO", lex.Quote(q.Into.Text))
	}
	parts = append(parts, "FROM", lex.Quote(q.From.Text))
	if len(q.Where) > 0 {
		g := sample.Grown(q.Where)
		parts = append(parts, "WHERE", condText(g))
	}
	window := "time(" + span.Print(q.Every) + ")"
	if q.Offset != 0 {
		window = "time(" + span.Print(q.Every) + ", " + span.Print(q.Offset) + ")"
	}
	cells = append(cells, window)
	for _, group := range q.Groups {
		cells = append(cells, lex.Quote(group.Text))
	}
	parts = append(parts, "GROUP BY", strings.Join(cells, ", "))
	if q.Fill != api.NoFill {
		parts = append(parts, []string{"", "FILL(last)", "FILL(" + strconv.FormatInt(q.FillN, 10) + ")"}[q.Fill])
	}
	return strings.Join(parts, " ")
}

// The chapter's third example, and all parts of a query.
func TestQueries(t *testing.T) {
	q := api.Query{Items: []api.Item{{Tree: []api.Node{sample.Call(api.Mean, "v")}, Alias: api.Label{Text: "m"}}}, From: api.Label{Text: "cpu"}, Every: 3600e9, Groups: []api.Label{{Text: "host"}}}
	q.Into.Text = "hourly"
	full := asked()
	last := asked()
	last.Fill, last.FillN, last.Offset, last.Into.Text = api.FillLast, 0, 0, ""
	for want, q := range map[string]api.Query{
		"SELECT mean(v) AS m INTO hourly FROM cpu GROUP BY time(1h), host":                                              q,
		"SELECT mean(v) AS m, -max(w) INTO hourly FROM cpu WHERE host = 'a' GROUP BY time(1h, 5m), host, zone FILL(-1)": full,
		"SELECT mean(v) AS m, -max(w) FROM cpu WHERE host = 'a' GROUP BY time(1h), host, zone FILL(last)":               last,
		`SELECT 1 FROM "time" GROUP BY time(1ns)`:                                                                       {Items: []api.Item{{Tree: []api.Node{sample.Int(1)}}}, From: api.Label{Text: "time"}, Every: 1},
	} {
		if got, err := Print(q); got != want || err != nil {
			t.Errorf("%q, not %q: %v", got, want, err)
		}
	}
}

// P13.3, P13.5, P13.9: any queries that are right but, maybe, too long.
func TestAnyQueries(t *testing.T) {
	d := draw()
	seen := map[string]api.Query{}
	long := 0
	for range 20000 {
		q := d.Query()
		want, e := queryText(q), api.Errno(0)
		if len(want) > api.MaxQuery {
			want, e = "", api.ErrLong
			long++
		}
		got, err := Print(q)
		if got != want {
			t.Fatalf("%q, not %q", got, want)
		}
		fails(t, q, err, e, expect.None)
		fails(t, q, Right(q), e, expect.None)
		blanks(t, got)
		if other, there := seen[got]; there && e == 0 && !Alike(q, other) {
			t.Fatalf("%q is told of two queries", got)
		}
		seen[got] = q
	}
	if long == 0 {
		t.Error("no query was too long")
	}
}

// flaw is what may be wrong with a query.
type flaw struct {
	e     api.Errno
	index int
	make  func(q *api.Query)
}

func items(n int) []api.Item { return slices.Repeat([]api.Item{{Tree: []api.Node{sample.Int(1)}}}, n) }

func groups(n int) []api.Label { return slices.Repeat([]api.Label{{Text: "host"}}, n) }

// badNames are none, badColumns neither.
func badNames() []string {
	return []string{"a\x00", "a\n", "\x7f", "\xff", strings.Repeat("n", api.MaxName+1)}
}

func badColumns() []string { return append(badNames(), "time") }

// flaws are what P13.3 tells, in its order: the ways in which one thing is wrong stand together.
func flaws() [][]flaw {
	none := expect.None
	var l [][]flaw
	add := func(e api.Errno, index int, makes ...func(q *api.Query)) {
		var ways []flaw
		for _, make := range makes {
			ways = append(ways, flaw{e, index, make})
		}
		l = append(l, ways)
	}
	named := func(names []string, set func(q *api.Query, s string)) (makes []func(q *api.Query)) {
		for _, s := range names {
			makes = append(makes, func(q *api.Query) { set(q, s) })
		}
		return makes
	}
	deep, deepCond := chains(65)
	add(api.ErrTree, none, func(q *api.Query) { q.Items = nil })
	add(api.ErrLong, none, func(q *api.Query) { q.Items = append(q.Items, items(17)...) }, func(q *api.Query) { q.Groups = append(q.Groups, groups(9)...) })
	for i := range 2 {
		add(api.ErrTree, i, func(q *api.Query) { q.Items[i].Tree = nil }, func(q *api.Query) { q.Items[i].Tree = []api.Node{sample.Node(api.OpTrue, 0)} })
		add(api.ErrDeep, i, func(q *api.Query) { q.Items[i].Tree = deep[i] })
		add(api.ErrName, i, named(badColumns(), func(q *api.Query, s string) { q.Items[i].Alias.Text = s })...)
	}
	add(api.ErrName, none, append(named(badNames(), func(q *api.Query, s string) { q.Into.Text = s }), named(append(badNames(), ""), func(q *api.Query, s string) { q.From.Text = s })...)...)
	add(api.ErrTree, none, func(q *api.Query) { q.Where = []api.Node{sample.Int(1)} }, func(q *api.Query) { q.Where = append(q.Where, q.Where...) })
	add(api.ErrDeep, none, func(q *api.Query) { q.Where = deepCond[0] })
	add(api.ErrEvery, none, func(q *api.Query) { q.Every = 0 }, func(q *api.Query) { q.Every = -1 }, func(q *api.Query) { q.Every = api.MaxEvery + 1 },
		func(q *api.Query) { q.Every, q.Offset = math.MinInt64, math.MinInt64 }, func(q *api.Query) { q.Offset = -1 }, func(q *api.Query) { q.Offset = q.Every }, func(q *api.Query) { q.Offset = math.MaxInt64 })
	add(api.ErrName, none, named(append(badColumns(), ""), func(q *api.Query, s string) { q.Groups[1].Text = s })...)
	add(api.ErrFill, none, func(q *api.Query) { q.Fill = 3 }, func(q *api.Query) { q.Fill = 255 }, func(q *api.Query) { q.Fill, q.FillN = api.NoFill, 1 },
		func(q *api.Query) { q.Fill, q.FillN = api.FillLast, -1 }, func(q *api.Query) { q.FillN = math.MinInt64 }, func(q *api.Query) { q.Fill, q.FillN = 9, 0 })
	return append(l, []flaw{{api.ErrLong, none, func(q *api.Query) { q.Where = tooLong() }}})
}

// tooLong is a right condition with a text of more bytes than a query may have.
func tooLong() []api.Node {
	return append([]api.Node{sample.Node(api.OpAnd, 1000)}, slices.Repeat([]api.Node{sample.Node(api.OpTrue, 0)}, 1000)...)
}

// P13.3: each thing that may be wrong, and of two of them the one that is named first.
func TestFlaws(t *testing.T) {
	all := flaws()
	for i, ways := range all {
		for _, first := range ways {
			q := asked()
			first.make(&q)
			check := func(q api.Query) {
				fails(t, q, Right(q), first.e, first.index)
				s, err := Print(q)
				fails(t, q, err, first.e, first.index)
				if s != "" {
					t.Errorf("%q beside an error", s)
				}
			}
			check(q)
			for _, more := range all[i+1:] {
				for _, second := range more {
					q := asked()
					second.make(&q)
					first.make(&q)
					if overlaps(first, second) {
						continue
					}
					check(q)
				}
			}
		}
	}
}

// overlaps tells whether the first flaw has taken the place of the second one, so that it says nothing of their order.
// That is where both are of one part of a query; nothing is told there that is not told by each alone.
func overlaps(first, second flaw) bool {
	alone, both := asked(), asked()
	first.make(&alone)
	second.make(&both)
	first.make(&both)
	return reflect.DeepEqual(alone, both)
}

// P13.3: what is just right still.
func TestEdges(t *testing.T) {
	for name, change := range map[string]func(q *api.Query){
		"many items":         func(q *api.Query) { q.Items = items(api.MaxFields) },
		"many groups":        func(q *api.Query) { q.Groups = groups(api.MaxTags) },
		"an alias":           func(q *api.Query) { q.Items[0].Alias.Text = strings.Repeat("n", api.MaxName) },
		"another alias":      func(q *api.Query) { q.Items[0].Alias.Text = "TIME" },
		"into time":          func(q *api.Query) { q.Into.Text = "time" },
		"into nothing":       func(q *api.Query) { q.Into.Text = "" },
		"from time":          func(q *api.Query) { q.From.Text = "time" },
		"no condition":       func(q *api.Query) { q.Where = []api.Node{} },
		"the least window":   func(q *api.Query) { q.Every, q.Offset = 1, 0 },
		"the longest window": func(q *api.Query) { q.Every, q.Offset = api.MaxEvery, api.MaxEvery-1 },
		"no group":           func(q *api.Query) { q.Groups = nil },
		"filled with 0":      func(q *api.Query) { q.FillN = 0 },
		"filled with much":   func(q *api.Query) { q.FillN = math.MaxInt64 },
		"filled with little": func(q *api.Query) { q.FillN = -math.MaxInt64 },
	} {
		q := asked()
		change(&q)
		fails(t, name, Right(q), 0, expect.None)
		if s, err := Print(q); s != queryText(q) || err != nil {
			t.Errorf("%s: %q: %v", name, s, err)
		}
	}
}

// P13.3: how long a query's text may be, to the byte.
func TestLongest(t *testing.T) {
	q := asked()
	const list = 14
	q.Where = sample.Over(api.OpAnd, []api.Node{sample.Node(api.OpTrue, 0)})
	for range list {
		q.Where = append(q.Where, sample.Above(api.OpEq, sample.Tag("a"), sample.Text(strings.Repeat("t", api.MaxText)))...)
	}
	q.Where[0].Kids += list
	g, _, whole := sample.Grow(q.Where)
	if !whole {
		t.Fatal("no tree")
	}
	short := api.MaxQuery - len(queryText(q))
	if short < 0 || short > api.MaxText-8 {
		t.Fatalf("%d bytes are missing of %v", short, condText(g)[:80])
	}
	// " AND b = ''" has 11 bytes beside its text.
	q.Where[0].Kids++
	for more := short - 13; more <= short-9; more++ {
		long := Copy(q)
		long.Where = append(long.Where, sample.Above(api.OpEq, sample.Tag("b"), sample.Text(strings.Repeat("t", more)))...)
		size := len(queryText(long))
		var e api.Errno
		if size > api.MaxQuery {
			e = api.ErrLong
		}
		if size != api.MaxQuery+more-(short-11) {
			t.Fatalf("%d bytes", size)
		}
		fails(t, size, Right(long), e, expect.None)
	}
}

// P13.4: each field by itself, and places.
func TestSame(t *testing.T) {
	l := []api.Node{{Op: api.OpAdd, Kids: 2}, {Op: api.OpInt, N: 1}, {Op: api.OpCall, Func: api.Mean, S: "v"}}
	for i := range l {
		for name, change := range map[string]func(n *api.Node){
			"Op": func(n *api.Node) { n.Op++ }, "Func": func(n *api.Node) { n.Func++ }, "S": func(n *api.Node) { n.S += "a" },
			"N": func(n *api.Node) { n.N-- }, "Kids": func(n *api.Node) { n.Kids-- }, "Pos": func(n *api.Node) { n.Pos = -7 },
		} {
			other := slices.Clone(l)
			change(&other[i])
			if Same(l, other) != (name == "Pos") || Same(other, l) != (name == "Pos") {
				t.Errorf("%s of %d", name, i)
			}
		}
	}
	if !Same(nil, nil) || !Same(nil, []api.Node{}) || !Same(l, l) || Same(l, nil) || Same(nil, l) || Same(l, l[:2]) || Same(l[:2], l) {
		t.Error("lists of unlike lengths")
	}
}

// P13.4: each field of a query by itself, found by what a query is made of, and places.
func TestAlike(t *testing.T) {
	base := asked()
	seen := 0
	for _, c := range fields(reflect.ValueOf(base), nil, "") {
		seen++
		q := asked()
		c.change(&q)
		if alike := strings.HasSuffix(c.name, "Pos"); Alike(base, q) != alike || Alike(q, base) != alike {
			t.Errorf("%s: %v", c.name, Alike(base, q))
		}
	}
	if seen < 50 {
		t.Errorf("%d fields", seen)
	}
	for name, change := range map[string]func(q *api.Query){
		"items": func(q *api.Query) { q.Items = q.Items[:1] }, "a tree": func(q *api.Query) { q.Items[1].Tree = q.Items[1].Tree[1:] },
		"where": func(q *api.Query) { q.Where = nil }, "groups": func(q *api.Query) { q.Groups = append(q.Groups, api.Label{}) },
	} {
		q := asked()
		change(&q)
		if Alike(base, q) || Alike(q, base) {
			t.Error(name)
		}
	}
	if !Alike(api.Query{}, api.Query{Items: []api.Item{}, Where: []api.Node{}, Groups: []api.Label{}}) {
		t.Error("empty lists")
	}
}

type fieldOf struct {
	name  string
	steps []int
}

// fields are the plain fields of which a thing is made, and the steps that lead there.
func fields(v reflect.Value, steps []int, name string) []fieldOf {
	var l []fieldOf
	switch v.Kind() {
	case reflect.Struct:
		for i := range v.NumField() {
			l = append(l, fields(v.Field(i), append(slices.Clone(steps), i), v.Type().Field(i).Name)...)
		}
	case reflect.Slice:
		for i := range v.Len() {
			l = append(l, fields(v.Index(i), append(slices.Clone(steps), i), name)...)
		}
	default:
		l = append(l, fieldOf{name, steps})
	}
	return l
}

// change gives a query's field another value.
func (f fieldOf) change(q *api.Query) {
	v := reflect.ValueOf(q).Elem()
	for _, step := range f.steps {
		if v.Kind() == reflect.Struct {
			v = v.Field(step)
		} else {
			v = v.Index(step)
		}
	}
	switch v.Kind() {
	case reflect.String:
		v.SetString(v.String() + "x")
	case reflect.Uint8:
		v.SetUint(v.Uint() ^ 1)
	default:
		v.SetInt(v.Int() + 1)
	}
}

// P13.6, P3: a copy is the same, and lies by itself.
func TestCopy(t *testing.T) {
	d := draw()
	for range 500 {
		q := d.Query()
		c := Copy(q)
		if !reflect.DeepEqual(q, c) {
			t.Fatalf("%v, not %v", c, q)
		}
		for _, f := range fields(reflect.ValueOf(c), nil, "") {
			f.change(&c)
		}
		if again := Copy(q); Alike(q, c) || !reflect.DeepEqual(q, again) {
			t.Fatal("a copy shares memory")
		}
	}
	if !reflect.DeepEqual(Copy(api.Query{}), api.Query{}) {
		t.Error("a copy of nothing")
	}
	// Of any lists: an item without a tree, lists with room behind their ends.
	q := api.Query{Items: make([]api.Item, 1, 4), Where: make([]api.Node, 1, 4), Groups: make([]api.Label, 1, 4)}
	c := Copy(q)
	c.Items, c.Where, c.Groups = append(c.Items, api.Item{Pos: 1}), append(c.Where, api.Node{Pos: 1}), append(c.Groups, api.Label{Pos: 1})
	if q.Items[:2][1].Pos != 0 || q.Where[:2][1].Pos != 0 || q.Groups[:2][1].Pos != 0 {
		t.Error("a copy reaches behind the list's end")
	}
}

// P3: nothing that is handed in changes, nor what lies behind it.
func TestHandedIn(t *testing.T) {
	d := draw()
	for range 2000 {
		q := d.Query()
		q.Items = append(q.Items, api.Item{Pos: 1})[:len(q.Items)]
		q.Where = append(q.Where, api.Node{Pos: 1})[:len(q.Where)]
		before := Copy(q)
		l := sample.One(d, d.Sum(4), d.Cond(4))
		l = append(l, api.Node{Pos: 1})[:len(l)]
		nodes := slices.Clone(l)
		Right(q)
		Print(q)
		Copy(q)
		Alike(q, q)
		Sum(l)
		Cond(l)
		PrintSum(l)
		PrintCond(l)
		Calls(l)
		Depth(l)
		for at := range l {
			Kids(l, at)
			End(l, at)
		}
		if !reflect.DeepEqual(q, before) || !slices.Equal(l, nodes) || l[:len(l)+1][len(l)].Pos != 1 || q.Where[:len(q.Where)+1][len(q.Where)].Pos != 1 {
			t.Fatal("something has changed")
		}
	}
}
