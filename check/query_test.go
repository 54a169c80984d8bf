package check

import (
	"reflect"
	"slices"
	"strings"
	"testing"

	"weir/api"
	"weir/ast"
	"weir/sample"
)

// itemName is an item's name as the chapter tells it.
func itemName(item api.Item) string {
	if item.Alias.Text != "" {
		return item.Alias.Text
	}
	if len(item.Tree) == 1 && item.Tree[0].Op == api.OpCall {
		names := map[api.Func]string{1: "count", 2: "sum", 3: "mean", 4: "min", 5: "max", 6: "first", 7: "last", 8: "spread"}
		return names[item.Tree[0].Func] + "_" + item.Tree[0].S
	}
	return ""
}

// nodesOf are the places of nodes of a kind that say another name than some, first come first.
func nodesOf(l []api.Node, op api.Op, names []string) []int {
	var places []int
	for _, n := range l {
		if n.Op == op && !slices.Contains(names, n.S) {
			places = append(places, n.Pos)
		}
	}
	return places
}

// queryWrong is what P15.2 tells of a right query, told anew: all that is wrong, in the order in which it is told.
func queryWrong(l []api.Table, q api.Query) []told {
	var wrong []told
	add := func(so bool, pos int, e api.Errno) {
		if so {
			wrong = append(wrong, at(pos, e))
		}
	}
	tables := map[string]api.Table{}
	for _, t := range slices.Backward(l) {
		tables[t.Measure] = t
	}
	source, there := tables[q.From.Text]
	if !there {
		return []told{at(q.From.Pos, api.ErrMeasure)}
	}
	_, taken := tables[q.Into.Text]
	add(taken && q.Into.Text != "", q.Into.Pos, api.ErrTarget)
	seen := map[string]int{}
	for _, item := range q.Items {
		for _, pos := range nodesOf(item.Tree, api.OpCall, source.Fields) {
			add(true, pos, api.ErrColumn)
		}
		name := itemName(item)
		add(len(nodesOf(item.Tree, api.OpCall, nil)) == 0 || name == "", item.Pos, api.ErrPlain)
		add(!isName(name) || name == "time", item.Pos, api.ErrName)
		add(seen[name] > 0, item.Pos, api.ErrTwice)
		seen[name]++
	}
	for _, pos := range nodesOf(q.Where, api.OpTag, source.Tags) {
		add(true, pos, api.ErrColumn)
	}
	for i, group := range q.Groups {
		add(!slices.Contains(source.Tags, group.Text), group.Pos, api.ErrColumn)
		for _, other := range q.Groups[:i] {
			add(other.Text == group.Text, group.Pos, api.ErrTwice)
		}
	}
	add(q.Into.Text != "" && q.Fill != api.NoFill, q.FillPos, api.ErrFill)
	return wrong
}

// wholeOf is a query with its items' names, told anew.
func wholeOf(q api.Query) api.Query {
	q = ast.Copy(q)
	for i, item := range q.Items {
		if item.Alias.Text == "" {
			q.Items[i].Alias = api.Label{Text: itemName(item), Pos: item.Pos}
		}
	}
	return q
}

// queries holds Query of a schema and a query against the words, and tells whether it was taken.
func queries(t *testing.T, l []api.Table, q api.Query) bool {
	t.Helper()
	got, err := Query(l, q)
	want := right()
	if bad := ast.Right(q); bad != nil {
		t.Fatalf("%v is not right: %v", q, bad)
	}
	if wrong := queryWrong(l, q); len(wrong) > 0 {
		want = wrong[0]
	} else if text, err := ast.Print(wholeOf(q)); err != nil || len(text) > 4000 {
		want = plainly(api.ErrLong)
	}
	fails(t, q, err, want)
	if want.e != 0 {
		if !reflect.DeepEqual(got, api.Query{}) {
			t.Fatalf("%v beside an error", got)
		}
		return false
	}
	if !reflect.DeepEqual(got, wholeOf(q)) {
		t.Fatalf("%v, not %v", got, wholeOf(q))
	}
	return true
}

// The chapter's examples, and one of each error with its place.
func TestQueryTexts(t *testing.T) {
	for text, want := range map[string]told{
		"SELECT mean(v) INTO t FROM cpu GROUP BY time(1h)":                                     right(),
		"SELECT mean(x) INTO t FROM cpu GROUP BY time(1h)":                                     at(7, api.ErrColumn),
		"SELECT mean(v) + max(x) AS a INTO t FROM cpu GROUP BY time(1h)":                       at(17, api.ErrColumn),
		"SELECT mean(host) INTO t FROM cpu GROUP BY time(1h)":                                  at(7, api.ErrColumn),
		"SELECT mean(v) INTO cpu FROM cpu GROUP BY time(1h)":                                   at(20, api.ErrTarget),
		"SELECT mean(v) INTO mem FROM cpu GROUP BY time(1h)":                                   at(20, api.ErrTarget),
		"SELECT mean(v) INTO t FROM cpu GROUP BY time(1h), nope":                               at(50, api.ErrColumn),
		"SELECT mean(v) INTO t FROM cpu GROUP BY time(1h), v":                                  at(50, api.ErrColumn),
		"SELECT mean(v) INTO t FROM cpu GROUP BY time(1h), host, zone, host":                   at(62, api.ErrTwice),
		"SELECT mean(v) INTO t FROM cpu GROUP BY time(1h), host, nope, host":                   at(56, api.ErrColumn),
		"SELECT 1 AS one INTO t FROM cpu GROUP BY time(1h)":                                    at(7, api.ErrPlain),
		"SELECT mean(v) + 1 INTO t FROM cpu GROUP BY time(1h)":                                 at(7, api.ErrPlain),
		"SELECT mean(v), -mean(v) INTO t FROM cpu GROUP BY time(1h)":                           at(16, api.ErrPlain),
		"SELECT mean(v), max(w) AS mean_v INTO t FROM cpu GROUP BY time(1h)":                   at(16, api.ErrTwice),
		"SELECT max(w) AS mean_v, mean(v) INTO t FROM cpu GROUP BY time(1h)":                   at(25, api.ErrTwice),
		"SELECT mean(v), mean(v) INTO t FROM cpu GROUP BY time(1h)":                            at(16, api.ErrTwice),
		"SELECT mean(v), mean(v) AS m INTO t FROM cpu GROUP BY time(1h)":                       right(),
		"SELECT mean(v) INTO t FROM nope GROUP BY time(1h)":                                    at(27, api.ErrMeasure),
		"SELECT mean(v) INTO t FROM t GROUP BY time(1h)":                                       at(27, api.ErrMeasure),
		"SELECT mean(v) INTO t FROM cpu WHERE host = zone GROUP BY time(1h)":                   right(),
		"SELECT mean(v) INTO t FROM cpu WHERE host = 'a' AND NOT v IN ('b') GROUP BY time(1h)": at(56, api.ErrColumn),
		"SELECT mean(v) INTO t FROM cpu GROUP BY time(1h) FILL(last)":                          at(49, api.ErrFill),
		"SELECT mean(v) INTO t FROM cpu GROUP BY time(1h) FILL(0)":                             at(49, api.ErrFill),
		"SELECT mean(v) FROM cpu GROUP BY time(1h) FILL(last)":                                 right(),
		"SELECT mean(used) FROM mem GROUP BY time(1h)":                                         right(),
		"SELECT mean(used) FROM mem GROUP BY time(1h), host":                                   at(46, api.ErrColumn),
	} {
		q := asked(t, text)
		if queries(t, cpu(), q) != (want.e == 0) {
			t.Errorf("%s was taken, or not", text)
		}
		_, err := Query(cpu(), q)
		fails(t, text, err, want)
	}
	q, _ := Query(cpu(), asked(t, "SELECT sum(v), last(w) AS l FROM cpu GROUP BY time(1h)"))
	if want := (api.Label{Text: "sum_v", Pos: 7}); q.Items[0].Alias != want {
		t.Errorf("%v, not %v", q.Items[0].Alias, want)
	}
	if want := (api.Label{Text: "l", Pos: 26}); q.Items[1].Alias != want {
		t.Errorf("%v, not %v", q.Items[1].Alias, want)
	}
}

// P15.2: what ast.Right tells comes ahead of all else, with its number.
func TestNotRight(t *testing.T) {
	for _, spoil := range []func(q *api.Query){
		func(q *api.Query) { q.Items = nil },
		func(q *api.Query) { q.Items[1].Tree = nil },
		func(q *api.Query) { q.Items[1].Alias.Text = "time" },
		func(q *api.Query) { q.Every = 0 },
		func(q *api.Query) { q.From.Text = "" },
		func(q *api.Query) { q.Groups = make([]api.Label, 9) },
		func(q *api.Query) { q.Fill = 9 },
		func(q *api.Query) { q.Where = []api.Node{sample.Int(1)} },
	} {
		for _, from := range []string{"cpu", "none"} {
			q := asked(t, "SELECT mean(v), max(x) INTO cpu FROM cpu GROUP BY time(1h), a, a FILL(1)")
			q.From.Text = from
			spoil(&q)
			want := ast.Right(q)
			got, err := Query(cpu(), q)
			if want == nil || !reflect.DeepEqual(err, want) || !reflect.DeepEqual(got, api.Query{}) {
				t.Errorf("%v: %v, not %v", got, err, want)
			}
		}
	}
	got, err := Query(nil, api.Query{})
	fails(t, "nothing", err, plainly(api.ErrTree))
	if !reflect.DeepEqual(got, api.Query{}) {
		t.Errorf("%v beside an error", got)
	}
}

// P15.2: an item's name may be one that is none, or as long as may be.
func TestItemNames(t *testing.T) {
	for n, want := range map[int]told{59: right(), 60: at(7, api.ErrName), 64: at(7, api.ErrName)} {
		field := strings.Repeat("f", n)
		l := []api.Table{{Measure: "m", Fields: []string{field}}}
		_, err := Query(l, asked(t, "SELECT mean("+field+") FROM m GROUP BY time(1h)"))
		fails(t, n, err, want)
		_, err = Query(l, asked(t, "SELECT mean("+field+") AS a FROM m GROUP BY time(1h)"))
		fails(t, n, err, right())
	}
}

// P15.2: the names of the items may be what makes a text too long, to the byte; that is told last.
func TestNamesTooLong(t *testing.T) {
	l := []api.Table{{Measure: "m", Tags: []string{"a"}, Fields: []string{"v"}}}
	for size := 3975; size <= 3995; size++ {
		text := func(list int, fill string) string {
			return "SELECT mean(v) INTO t FROM m WHERE a = '" + strings.Repeat("t", 200) + "'" + strings.Repeat(" OR a = '"+strings.Repeat("t", 200)+"'", 17) +
				" OR a = '" + strings.Repeat("t", list) + "' GROUP BY time(1h)" + fill
		}
		s := text(size-len(text(0, "")), "")
		if len(s) != size {
			t.Fatalf("%d bytes", len(s))
		}
		// AS mean_v has 10 bytes with its blanks.
		want := right()
		if size+10 > api.MaxQuery {
			want = plainly(api.ErrLong)
		}
		q := asked(t, s)
		queries(t, l, q)
		_, err := Query(l, q)
		fails(t, size, err, want)
		q.Fill, q.FillPos = api.FillLast, 5
		if ast.Right(q) == nil {
			_, err = Query(l, q)
			fails(t, size, err, at(5, api.ErrFill))
		}
	}
}

// someQuery draws a right query over few names, so that it fits a schema of these often enough.
func someQuery(d sample.Draw) api.Query {
	for {
		q := d.Query()
		rename := func(l []api.Node, op api.Op, names ...string) {
			for i := range l {
				if l[i].Pos = d(999); l[i].Op == op {
					l[i].S = sample.One(d, names...)
				}
			}
		}
		rename(q.Where, api.OpTag, "host", "host", "host", "zone", "zone", "zone", "v")
		for i := range q.Items {
			item := &q.Items[i]
			if d(2) > 0 {
				item.Tree = d.Sum(1)
			}
			rename(item.Tree, api.OpCall, "v", "v", "v", "w", "w", "w", "host")
			item.Alias.Text = sample.One(d, "", "", "a", "b", "mean_v", "zone")
		}
		q.From.Text = sample.One(d, "cpu", "cpu", "cpu", "mem", "none")
		q.Into.Text = sample.One(d, "", "t", "t", "cpu")
		for i := range q.Groups {
			q.Groups[i].Text = sample.One(d, "host", "zone", "v", "host", "zone")
		}
		if d(2) > 0 {
			q.Fill, q.FillN = api.NoFill, 0
		}
		if ast.Right(q) == nil {
			return q
		}
	}
}

// P15.2, P15.5, P15.6: any queries.
func TestAnyQueries(t *testing.T) {
	d := draw()
	took, errors := 0, map[api.Errno]int{}
	for range 40000 {
		l, q := cpu(), someQuery(d)
		before := ast.Copy(q)
		takes := queries(t, l, q)
		if !reflect.DeepEqual(q, before) || !reflect.DeepEqual(l, cpu()) {
			t.Fatal("what is handed in has changed")
		}
		got, err := Query(l, q)
		more := append(l, api.Table{Measure: "none", Fields: []string{"x"}}, api.Table{Measure: "cpu", Fields: []string{"y"}})
		again, later := Query(more, q)
		if takes {
			took++
			if !reflect.DeepEqual(got, again) || later != nil {
				t.Fatalf("%v with more tables: %v", q, later)
			}
			derived(t, got)
			continue
		}
		for _, wrong := range queryWrong(l, q) {
			errors[wrong.e]++
		}
		if wrong := queryWrong(l, q); len(wrong) > 0 && wrong[0].e != api.ErrMeasure {
			fails(t, q, later, wrong[0])
		} else if err == nil {
			t.Fatalf("%v was taken", q)
		}
	}
	for _, e := range []api.Errno{api.ErrMeasure, api.ErrTarget, api.ErrColumn, api.ErrPlain, api.ErrName, api.ErrTwice, api.ErrFill} {
		if errors[e] < 100 {
			t.Errorf("%v came %d times", e, errors[e])
		}
	}
	if took < 1500 {
		t.Errorf("%d queries were taken", took)
	}
}

// derived holds what follows of a query that was taken against P15.5: it is taken again, and its table fits.
func derived(t *testing.T, q api.Query) {
	t.Helper()
	if again, err := Query(cpu(), q); err != nil || !reflect.DeepEqual(q, again) {
		t.Fatalf("%v, not %v: %v", again, q, err)
	}
	table := Derived(q)
	if q.Into.Text != "" {
		fails(t, q, Schema(append(cpu(), table)), right())
	}
	if table.Measure != q.Into.Text || len(table.Tags) != len(q.Groups) || len(table.Fields) != len(q.Items) {
		t.Fatalf("%v of %v", table, q)
	}
	for i, group := range q.Groups {
		if table.Tags[i] != group.Text {
			t.Fatalf("%v of %v", table, q)
		}
	}
	for i, item := range q.Items {
		if table.Fields[i] != item.Alias.Text {
			t.Fatalf("%v of %v", table, q)
		}
	}
}

// P3: what Query tells lies by itself.
func TestQueryMemory(t *testing.T) {
	text := "SELECT mean(v) + 1 AS a, max(v) INTO t FROM cpu WHERE host = 'a' GROUP BY time(1h), host, zone"
	q := asked(t, text)
	got, err := Query(cpu(), q)
	fails(t, text, err, right())
	got.Items[0].Tree[0].Op, got.Items[1].Alias.Text, got.Where[1].S, got.Groups[1].Text = api.OpMul, "x", "x", "x"
	if !reflect.DeepEqual(q, asked(t, text)) {
		t.Error("the query shares memory with what was handed in")
	}
	other, _ := Query(cpu(), q)
	if !reflect.DeepEqual(other, wholeOf(q)) {
		t.Error("the query shares memory with another answer")
	}
	behind := asked(t, text)
	behind.Groups = append(behind.Groups, api.Label{Text: "kept"})[:2]
	got, _ = Query(cpu(), behind)
	_ = append(got.Groups, api.Label{Text: "new"})
	if behind.Groups[:3][2].Text != "kept" {
		t.Error("an answer reaches behind the end of what was handed in")
	}
}

// P15.3: the table of any query.
func TestDerived(t *testing.T) {
	q := api.Query{
		Into: api.Label{Text: "t"},
		Items: []api.Item{
			{Tree: []api.Node{sample.Call(api.Spread, "v")}},
			{Tree: []api.Node{sample.Call(api.TotalOf, "v")}, Alias: api.Label{Text: "s"}},
			{Tree: []api.Node{sample.Call(9, "v")}},
			{Tree: []api.Node{sample.Call(0, "")}},
			{Tree: sample.Above(api.OpNeg, sample.Call(api.Mean, "v"))},
			{Tree: []api.Node{sample.Int(1)}},
			{},
			{Alias: api.Label{Text: "a"}},
			{Tree: []api.Node{sample.Call(api.Count, "v"), sample.Call(api.Count, "v")}},
		},
		Groups: []api.Label{{Text: "b"}, {Text: "a"}, {Text: ""}, {Text: "b"}},
	}
	want := api.Table{Measure: "t", Tags: []string{"b", "a", "", "b"}, Fields: []string{"spread_v", "s", "_v", "_", "", "", "", "a", ""}}
	if got := Derived(q); !reflect.DeepEqual(got, want) {
		t.Errorf("%q, not %q", got, want)
	}
	for i, f := range []string{"count", "sum", "mean", "min", "max", "first", "last", "spread"} {
		q := api.Query{Items: []api.Item{{Tree: []api.Node{sample.Call(api.Func(1+i), "x")}}}}
		if got := Derived(q).Fields[0]; got != f+"_x" {
			t.Errorf("%s, not %s_x", got, f)
		}
	}
	if got := Derived(api.Query{}); got.Measure != "" || len(got.Tags) != 0 || len(got.Fields) != 0 {
		t.Errorf("%v of nothing", got)
	}
}

// P15.3: conditions over a table.
func TestCond(t *testing.T) {
	table := cpu()[0]
	tags := func(names ...string) []api.Node {
		l := []api.Node{sample.Node(api.OpOr, len(names))}
		for i, s := range names {
			tag := sample.Tag(s)
			tag.Pos = 10 * (i + 1)
			l = append(l, sample.Above(api.OpEq, sample.Text(""), tag)...)
		}
		return l
	}
	deep := []api.Node{sample.Node(api.OpTrue, 0)}
	for range api.MaxDeep {
		deep = sample.Over(api.OpNot, deep)
	}
	for _, c := range []struct {
		l    []api.Node
		want told
	}{
		{nil, right()},
		{[]api.Node{}, right()},
		{[]api.Node{sample.Node(api.OpTrue, 0)}, right()},
		{tags("host", "zone"), right()},
		{tags("host", "v"), at(20, api.ErrColumn)},
		{tags("host", "x", "zone", "y"), at(20, api.ErrColumn)},
		{tags("HOST", "x"), at(10, api.ErrColumn)},
		{tags("x", "time"), plainly(api.ErrTree)},
		{append(tags("x", "y"), sample.Tag("x")), plainly(api.ErrTree)},
		{[]api.Node{sample.Tag("x")}, plainly(api.ErrTree)},
		{[]api.Node{sample.Call(api.Mean, "v")}, plainly(api.ErrTree)},
		{deep, plainly(api.ErrDeep)},
	} {
		fails(t, c.l, Cond(table, c.l), c.want)
	}
	fails(t, "no tags", Cond(api.Table{}, tags("host", "zone")), at(10, api.ErrColumn))
	d := draw()
	for range 3000 {
		l := d.Cond(1 + d(5))
		for i := range l {
			l[i].Pos = d(999)
		}
		want := right()
		if places := nodesOf(l, api.OpTag, table.Tags); len(places) > 0 {
			want = at(places[0], api.ErrColumn)
		}
		fails(t, l, Cond(table, l), want)
	}
}

// P15.3: points, and of two flaws the one that is named first.
func TestPoint(t *testing.T) {
	base := func() api.Point {
		return api.Point{Measure: "cpu", Tags: []api.Tag{{Key: "zone", Value: "z"}, {Key: "host", Value: "a"}}, Fields: []api.Field{{Key: "w", N: 1}}, Time: 5}
	}
	flaws := []struct {
		e     api.Errno
		spoil func(p *api.Point)
	}{
		{api.ErrName, func(p *api.Point) { p.Measure = "" }},
		{api.ErrTags, func(p *api.Point) { p.Tags = append(p.Tags, api.Tag{Key: "host", Value: "b"}) }},
		{api.ErrTags, func(p *api.Point) { p.Tags = append(p.Tags, api.Tag{Key: "x"}) }},
		{api.ErrField, func(p *api.Point) { p.Fields = append(p.Fields, api.Field{Key: "time"}) }},
		{api.ErrField, func(p *api.Point) { p.Fields = nil }},
		{api.ErrRange, func(p *api.Point) { p.Time = api.MaxTime + 1 }},
		{api.ErrMeasure, func(p *api.Point) { p.Measure = "none" }},
		{api.ErrColumn, func(p *api.Point) { p.Tags = append(p.Tags, api.Tag{Key: "v", Value: "b"}) }},
		{api.ErrColumn, func(p *api.Point) { p.Fields = append(p.Fields, api.Field{Key: "host"}) }},
		{api.ErrColumn, func(p *api.Point) { p.Fields = append(p.Fields, api.Field{Key: "used"}) }},
	}
	for i, first := range flaws {
		p := base()
		first.spoil(&p)
		fails(t, p, Point(cpu(), p), plainly(first.e))
		for _, second := range flaws[i+1:] {
			p := base()
			second.spoil(&p)
			first.spoil(&p)
			fails(t, p, Point(cpu(), p), plainly(first.e))
		}
	}
	for _, change := range []func(p *api.Point){
		func(p *api.Point) {},
		func(p *api.Point) { p.Tags = nil },
		func(p *api.Point) { p.Tags = p.Tags[1:] },
		func(p *api.Point) { p.Fields = append(p.Fields, api.Field{Key: "v"}) },
		func(p *api.Point) { p.Time = -api.MaxTime },
		func(p *api.Point) { p.Measure, p.Tags, p.Fields[0].Key = "mem", nil, "used" },
	} {
		p := base()
		change(&p)
		fails(t, p, Point(cpu(), p), right())
	}
	fails(t, "a table without tags", Point([]api.Table{{Measure: "cpu", Fields: []string{"w"}}, cpu()[0]}, base()), plainly(api.ErrColumn))
	fails(t, "no schema", Point(nil, base()), plainly(api.ErrMeasure))
	fails(t, "no point", Point(nil, api.Point{}), plainly(api.ErrName))
}
