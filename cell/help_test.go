package cell

import (
	"math"
	"math/big"
	"math/rand"
	"slices"
	"strconv"
	"testing"

	"weir/api"
	"weir/expect"
	"weir/key"
	"weir/norm"
	"weir/parse"
	"weir/sample"
)

// fails holds an error against a number; it must tell no place and no index.
func fails(t *testing.T, what any, err error, e api.Errno) {
	t.Helper()
	if wrong := expect.Wrong(err, e, expect.None, expect.None); wrong != "" {
		t.Errorf("%.2000v: %v: %s", what, err, wrong)
	}
}

// draw draws from a source with a fixed seed, so that each run draws the same.
func draw() sample.Draw { return rand.New(rand.NewSource(1970)).Intn }

// queryOf reads a query.
func queryOf(t *testing.T, text string) api.Query {
	t.Helper()
	q, err := parse.Query(text)
	if err != nil {
		t.Fatalf("%s: %v", text, err)
	}
	return q
}

func told(n int64) api.Told { return api.Told{Some: true, Value: api.Value{N: n}} }

var (
	over = api.Told{Some: true, Value: api.Value{Kind: api.Over}}
	void = api.Told{Some: true, Value: api.Value{Kind: api.Void}}
)

// write is a sample of a series with the tags host and zone, as far as these are not empty.
func write(field, host, zone string, t int64, v api.Value) api.Write {
	tags := key.Join([]string{"host", "zone"}, []string{host, zone})
	return api.Write{Series: api.Series{Measure: "cpu", Tags: tags, Field: field}, Sample: api.Sample{Time: t, Value: v}}
}

func number(n int64) api.Value { return api.Value{N: n} }

// row is a row of a query with so many groups.
func row(start int64, groups []string, items ...api.Told) api.Row {
	return api.Row{Cell: api.Cell{Start: start, Group: groups}, Items: items}
}

func sameCells(a, b api.Cell) bool { return a.Start == b.Start && slices.Equal(a.Group, b.Group) }

func sameRows(a, b []api.Row) bool {
	return slices.EqualFunc(a, b, func(a, b api.Row) bool { return sameCells(a.Cell, b.Cell) && slices.Equal(a.Items, b.Items) })
}

func sameWrites(a, b []api.Write) bool {
	return slices.EqualFunc(a, b, func(a, b api.Write) bool { return sameSeries(a.Series, b.Series) && a.Sample == b.Sample })
}

func sameSeries(a, b api.Series) bool {
	return a.Measure == b.Measure && slices.Equal(a.Tags, b.Tags) && a.Field == b.Field
}

// columns are those of which samples are drawn, and one of each kind that none has.
var columns = api.Table{Tags: []string{"host", "zone", "nope"}, Fields: []string{"v", "v", "w", "x"}}

// someQuery draws a right query of cpu.
func someQuery(d sample.Draw) api.Query {
	q := api.Query{From: api.Label{Text: "cpu"}, Every: sample.One[int64](d, 1, 2, 7, 10, 25, api.MaxEvery)}
	q.Offset = sample.One(d, 0, 0, q.Every-1, q.Every/2)
	q.Into.Text = sample.One(d, "", "target", "cpu", "time")
	for i := range 1 + d(4) {
		alias := sample.One(d, "", "one", "a b", strconv.Itoa(i), strconv.Itoa(i))
		q.Items = append(q.Items, api.Item{Tree: d.About(columns, d.Sum(1+d(4))), Alias: api.Label{Text: alias}})
	}
	if d(3) > 0 {
		q.Where = d.About(columns, d.Cond(1+d(4)))
	}
	for range d(4) {
		q.Groups = append(q.Groups, api.Label{Text: sample.One(d, "host", "zone", "nope"), Pos: d(99)})
	}
	q.Fill = api.FillKind(d(3))
	if q.Fill == api.FillWith {
		q.FillN = sample.One(d, 0, -5, d.Number())
	}
	return q
}

// someNumber draws a number, mostly a small one, and else often one of those that make sums too large.
func someNumber(d sample.Draw) int64 {
	return sample.One(d, int64(d(20)-10), int64(d(20)-10), 0, 1<<62, -1<<62, math.MaxInt64, math.MinInt64)
}

// someWrite draws a sample, which need not be of the measure, nor be right.
func someWrite(d sample.Draw) api.Write {
	v := number(someNumber(d))
	if d(6) == 0 {
		v = sample.One(d, api.Value{Kind: api.Over}, api.Value{Kind: api.Void}, api.Value{Kind: 3, N: 5}, api.Value{Kind: 255})
	}
	w := write(sample.One(d, "v", "v", "w", "y"), sample.One(d, "", "a", "b"), sample.One(d, "", "a", "c d"), int64(d(60)-30), v)
	switch d(20) {
	case 0:
		w.Series.Measure = sample.One(d, "mem", "", "CPU")
	case 1:
		slices.Reverse(w.Series.Tags)
	case 2:
		w.Series.Tags = append(w.Series.Tags, api.Tag{Key: "host", Value: "late"}, api.Tag{Key: "", Value: "\xff"})
	case 3:
		w.Series.Tags = append(w.Series.Tags, api.Tag{Key: "nope", Value: sample.One(d, "", "a", "n,=\\")})
	}
	return w
}

func someWrites(d sample.Draw, many int) []api.Write {
	return sample.Some(many, func() api.Write { return someWrite(d) })
}

// lying is a sample that counts, and its cell.
type lying struct {
	api.Write
	cell api.Cell
}

// counted are the samples that count, told anew; false: a window starts outside int64.
func counted(q api.Query, l []api.Write) (all []lying, inside bool) {
	for i, w := range l {
		later := slices.ContainsFunc(l[i+1:], func(o api.Write) bool { return sameSeries(w.Series, o.Series) && w.Sample.Time == o.Sample.Time })
		if w.Series.Measure != q.From.Text || later || w.Sample.Value.Kind != api.Int {
			continue
		}
		if holds, _ := norm.Holds(q.Where, w.Series.Tags, w.Sample.Time); len(q.Where) > 0 && !holds {
			continue
		}
		into := new(big.Int).Sub(big.NewInt(w.Sample.Time), big.NewInt(q.Offset))
		start := new(big.Int).Sub(big.NewInt(w.Sample.Time), into.Mod(into, big.NewInt(q.Every)))
		if !start.IsInt64() {
			return nil, false
		}
		group := make([]string, len(q.Groups))
		for g, name := range q.Groups {
			for _, tag := range slices.Backward(w.Series.Tags) {
				if tag.Key == name.Text {
					group[g] = tag.Value
				}
			}
		}
		all = append(all, lying{w, api.Cell{Start: start.Int64(), Group: group}})
	}
	return all, true
}

// function is what a function tells of samples, told anew.
func function(f api.Func, l []lying) api.Told {
	if len(l) == 0 {
		return api.Told{}
	}
	count, sum := big.NewInt(int64(len(l))), new(big.Int)
	var numbers []int64
	for _, x := range l {
		numbers = append(numbers, x.Sample.Value.N)
		sum.Add(sum, big.NewInt(x.Sample.Value.N))
	}
	slices.SortFunc(l, func(a, b lying) int {
		if a.Sample.Time != b.Sample.Time {
			return big.NewInt(a.Sample.Time).Cmp(big.NewInt(b.Sample.Time))
		}
		return key.Compare(a.Series, b.Series)
	})
	least, most := big.NewInt(slices.Min(numbers)), big.NewInt(slices.Max(numbers))
	return sample.Whole(map[api.Func]*big.Int{
		api.Count: count, api.TotalOf: sum, api.Mean: sample.Reckoned(api.OpDiv, sum, count), api.Min: least, api.Max: most,
		api.First: big.NewInt(l[0].Sample.Value.N), api.Last: big.NewInt(l[len(l)-1].Sample.Value.N), api.Spread: sample.Reckoned(api.OpSub, most, least),
	}[f])
}

// meant is Answer of a right query, told anew.
func meant(q api.Query, l []api.Write) ([]api.Row, bool) {
	all, inside := counted(q, l)
	if !inside {
		return nil, false
	}
	var cells []api.Cell
	for _, x := range all {
		if !slices.ContainsFunc(cells, func(c api.Cell) bool { return sameCells(c, x.cell) }) {
			cells = append(cells, x.cell)
		}
	}
	slices.SortFunc(cells, func(a, b api.Cell) int {
		if a.Start != b.Start {
			return big.NewInt(a.Start).Cmp(big.NewInt(b.Start))
		}
		return slices.Compare(a.Group, b.Group)
	})
	var rows []api.Row
	for _, c := range cells {
		var items []api.Told
		some := false
		for _, item := range q.Items {
			one := sample.Tell(item.Tree, func(n api.Node) api.Told {
				its := slices.DeleteFunc(slices.Clone(all), func(x lying) bool { return !sameCells(x.cell, c) || x.Series.Field != n.S })
				return function(n.Func, its)
			})
			items, some = append(items, one), some || one.Some
		}
		if some {
			rows = append(rows, api.Row{Cell: c, Items: items})
		}
	}
	return rows, true
}

// someRows draws right rows for a query: not only such as Answer tells.
func someRows(d sample.Draw, q api.Query) []api.Row {
	var rows []api.Row
	for range d(12) {
		c := api.Cell{Start: q.Offset + int64(d(12)-6)*sample.One(d, q.Every, q.Every, min(5*q.Every, api.MaxEvery))}
		for range q.Groups {
			c.Group = append(c.Group, sample.One(d, "", "a", "b", "c d", "\xff,\n"))
		}
		if slices.ContainsFunc(rows, func(r api.Row) bool { return Compare(r.Cell, c) == 0 }) {
			continue
		}
		items := sample.Some(len(q.Items), func() api.Told {
			return sample.One(d, told(someNumber(d)), told(someNumber(d)), over, void, api.Told{}, api.Told{Value: api.Value{Kind: 77, N: 8}})
		})
		rows = append(rows, api.Row{Cell: c, Items: items})
	}
	slices.SortFunc(rows, func(a, b api.Row) int { return Compare(a.Cell, b.Cell) })
	return rows
}

// plainly are rows in which what tells nothing says nothing else.
func plainly(l []api.Row) []api.Row {
	var rows []api.Row
	for _, r := range l {
		items := slices.Clone(r.Items)
		for i := range items {
			if !items[i].Some {
				items[i] = api.Told{}
			}
		}
		rows = append(rows, api.Row{Cell: r.Cell, Items: items})
	}
	return rows
}

// copyRows are rows in memory of their own, with something behind the end of each list.
func copyRows(l []api.Row) []api.Row {
	l = sample.Room(l, api.Row{Cell: api.Cell{Start: 99}})
	for i := range l {
		l[i].Cell.Group, l[i].Items = sample.Room(l[i].Cell.Group, "spare"), sample.Room(l[i].Items, told(99))
	}
	return l
}

// spareRows is all that copyRows has made.
func spareRows(l []api.Row) []any {
	all := []any{sample.Spare(l)}
	for _, r := range l {
		all = append(all, sample.Spare(r.Cell.Group), sample.Spare(r.Items))
	}
	return all
}

// copyWrites are samples in memory of their own, with something behind the end of each list.
func copyWrites(l []api.Write) []api.Write {
	l = sample.Room(l, api.Write{Sample: api.Sample{Time: 99}})
	for i := range l {
		l[i].Series.Tags = sample.Room(l[i].Series.Tags, api.Tag{Key: "spare"})
	}
	return l
}

// spareWrites is all that copyWrites has made.
func spareWrites(l []api.Write) []any {
	all := []any{sample.Spare(l)}
	for _, w := range l {
		all = append(all, sample.Spare(w.Series.Tags))
	}
	return all
}

// copyQuery is a query in memory of its own, with something behind the end of each list.
func copyQuery(q api.Query) api.Query {
	q.Items, q.Where, q.Groups = sample.Room(q.Items, api.Item{Pos: 99}), sample.Room(q.Where, api.Node{S: "spare"}), sample.Room(q.Groups, api.Label{Text: "spare"})
	for i := range q.Items {
		q.Items[i].Tree = sample.Room(q.Items[i].Tree, api.Node{S: "spare"})
	}
	return q
}

// spareQuery is all that copyQuery has made.
func spareQuery(q api.Query) []any {
	all := []any{q, sample.Spare(q.Items), sample.Spare(q.Where), sample.Spare(q.Groups)}
	for _, item := range q.Items {
		all = append(all, sample.Spare(item.Tree))
	}
	return all
}
