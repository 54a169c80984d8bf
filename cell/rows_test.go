package cell

import (
	"math"
	"reflect"
	"slices"
	"strings"
	"testing"

	"weir/api"
	"weir/ast"
	"weir/batch"
	"weir/fault"
	"weir/key"
	"weir/sample"
)

// rowsQuery has two groups, and three items of which the last one has no name.
func rowsQuery(t *testing.T) api.Query {
	t.Helper()
	return queryOf(t, `SELECT max(v) AS "a b", min(v) AS m, count(v) INTO "the target" FROM cpu GROUP BY time(10ns, 3ns), zone, "host=,"`)
}

// P23.3: samples of the target, by series and then by time.
func TestWrites(t *testing.T) {
	q := rowsQuery(t)
	rows := []api.Row{
		row(-7, []string{"", ""}, told(1), api.Told{}, api.Told{}), row(-7, []string{"z", "h"}, told(2), void, api.Told{}),
		row(3, []string{"", ""}, told(3), told(4), api.Told{}), row(3, []string{"", "h"}, api.Told{}, over, api.Told{}), row(13, []string{"", ""}, api.Told{}, api.Told{}, api.Told{}),
	}
	series := func(field string, tags ...api.Tag) api.Series {
		return api.Series{Measure: "the target", Tags: tags, Field: field}
	}
	host, zone := api.Tag{Key: "host=,", Value: "h"}, api.Tag{Key: "zone", Value: "z"}
	want := []api.Write{
		{Series: series("a b"), Sample: api.Sample{Time: -7, Value: number(1)}}, {Series: series("a b"), Sample: api.Sample{Time: 3, Value: number(3)}},
		{Series: series("m"), Sample: api.Sample{Time: 3, Value: number(4)}},
		{Series: series("m", host), Sample: api.Sample{Time: 3, Value: api.Value{Kind: api.Over}}},
		{Series: series("a b", host, zone), Sample: api.Sample{Time: -7, Value: number(2)}},
		{Series: series("m", host, zone), Sample: api.Sample{Time: -7, Value: api.Value{Kind: api.Void}}},
	}
	if got, err := Writes(q, rows); err != nil || !sameWrites(got, want) {
		t.Errorf("%v, %v, not %v", got, err, want)
	}
	if got, err := Writes(q, nil); err != nil || len(got) > 0 {
		t.Errorf("%v, %v", got, err)
	}
}

// P23.3: what has no name has none to be written under.
func TestPlain(t *testing.T) {
	q := rowsQuery(t)
	rows := []api.Row{row(3, []string{"", ""}, told(1), told(1), api.Told{}), row(13, []string{"", ""}, api.Told{}, api.Told{}, void)}
	got, err := Writes(q, rows)
	if fails(t, "no alias", err, api.ErrPlain); got != nil {
		t.Errorf("%v with an error", got)
	}
	_, err = Writes(q, rows[:1])
	fails(t, "no alias of what tells nothing", err, 0)
	q.Into.Text = ""
	for _, l := range [][]api.Row{nil, rows[:1], rows} {
		_, err = Writes(q, l)
		fails(t, "no target", err, api.ErrPlain)
	}
	slices.Reverse(rows)
	_, err = Writes(q, rows)
	fails(t, "wrong rows without a target", err, api.ErrRange)
}

// P23.3: of items, and of groups, of one name the last one that tells something counts.
func TestOneName(t *testing.T) {
	q := queryOf(t, "SELECT max(v) AS a, min(v) AS a INTO t FROM cpu GROUP BY time(10ns), host, host")
	rows := []api.Row{
		row(0, []string{"x", ""}, told(1), api.Told{}), row(0, []string{"y", "x"}, told(3), told(4)), row(10, []string{"x", "x"}, told(5), void),
	}
	series := api.Series{Measure: "t", Tags: []api.Tag{{Key: "host", Value: "x"}}, Field: "a"}
	want := []api.Write{{Series: series, Sample: api.Sample{Value: number(4)}}, {Series: series, Sample: api.Sample{Time: 10, Value: api.Value{Kind: api.Void}}}}
	if got, err := Writes(q, rows); err != nil || !sameWrites(got, want) {
		t.Errorf("%v, %v, not %v", got, err, want)
	}
}

// P23.3: any rows, told anew.
func TestAnyWrites(t *testing.T) {
	d := draw()
	many := map[api.Errno]int{}
	for range 10000 {
		q := someQuery(d)
		rows := someRows(d, q)
		var want []api.Write
		var e api.Errno
		for _, r := range rows {
			for i, one := range r.Items {
				if one.Some && (q.Items[i].Alias.Text == "" || q.Into.Text == "") {
					e = api.ErrPlain
				}
				var names, texts []string
				for g, name := range q.Groups {
					names, texts = append(names, name.Text), append(texts, r.Cell.Group[g])
				}
				if one.Some {
					want = append(want, api.Write{
						Series: api.Series{Measure: q.Into.Text, Tags: key.Join(names, texts), Field: q.Items[i].Alias.Text},
						Sample: api.Sample{Time: r.Cell.Start, Value: one.Value},
					})
				}
			}
		}
		if q.Into.Text == "" {
			e = api.ErrPlain
		}
		if ast.Right(q) != nil {
			continue
		}
		got, err := Writes(q, rows)
		many[e]++
		if fails(t, q, err, e); e == 0 && !sameWrites(got, batch.Order(want)) || e != 0 && got != nil {
			t.Fatalf("%v of %v: %v, not %v", q, rows, got, want)
		}
	}
	if many[0] < 2000 || many[api.ErrPlain] < 2000 {
		t.Errorf("%v", many)
	}
}

// P23.3: lines, part by part.
func TestPrint(t *testing.T) {
	q := rowsQuery(t)
	rows := []api.Row{
		row(math.MinInt64+1, []string{"", ""}, told(1), api.Told{}, api.Told{}),
		row(-7, []string{"", "h"}, over, void, api.Told{}), row(-7, []string{"z \\", "h"}, told(math.MinInt64), told(0), told(math.MaxInt64)),
		row(3, []string{"z", ""}, api.Told{}, api.Told{Value: number(5)}, api.Told{}),
	}
	// The first one begins a window, which another offset must tell.
	q.Offset = (math.MinInt64+1)%10 + 10
	want := "-9223372036854775807 - a\\ b=1\n"
	if got, err := Print(q, rows[:1]); err != nil || got != want {
		t.Errorf("%q, %v, not %q", got, err, want)
	}
	q.Offset = 3
	want = "-7 host\\=\\,=h a\\ b=over,m=void\n" +
		"-7 zone=z\\ \\\\,host\\=\\,=h a\\ b=-9223372036854775808,m=0,=9223372036854775807\n" +
		"3 zone=z -\n"
	if got, err := Print(q, rows[1:]); err != nil || got != want {
		t.Errorf("%q, %v, not %q", got, err, want)
	}
	if got, err := Print(q, nil); err != nil || got != "" {
		t.Errorf("%q, %v", got, err)
	}
	// The target plays no part.
	q.Into.Text = ""
	if got, err := Print(q, rows[1:]); err != nil || got != want {
		t.Errorf("%q, %v, not %q", got, err, want)
	}
	// Without groups.
	q = queryOf(t, "SELECT max(v) AS x FROM cpu GROUP BY time(5ns)")
	if got, err := Print(q, []api.Row{row(-5, nil, told(-3)), row(10, nil, void)}); err != nil || got != "-5 - x=-3\n10 - x=void\n" {
		t.Errorf("%q, %v", got, err)
	}
}

// wrongRows are such that they are not right for a query with two groups, three items and windows from 3 on of 10 each.
func wrongRows() map[string][]api.Row {
	group := []string{"a", "b"}
	one := row(3, group, told(1), told(2), api.Told{})
	with := func(v api.Value) []api.Row {
		return []api.Row{one, row(13, group, told(1), api.Told{Some: true, Value: v}, api.Told{})}
	}
	other := func(start int64, group []string, items ...api.Told) []api.Row {
		return []api.Row{one, row(start, group, items...)}
	}
	three := []api.Told{told(1), told(2), told(3)}
	return map[string][]api.Row{
		"twice":              {one, one},
		"an earlier one":     other(-7, group, three...),
		"a smaller text":     other(3, []string{"a", "a"}, three...),
		"no window":          other(14, group, three...),
		"no window at all":   {row(math.MinInt64, group, three...), one},
		"no group":           other(13, nil, three...),
		"one group":          other(13, []string{"a"}, three...),
		"three groups":       other(13, []string{"a", "b", ""}, three...),
		"no item":            other(13, group),
		"two items":          other(13, group, three[:2]...),
		"four items":         other(13, group, append(three, told(4))...),
		"a kind that is not": with(api.Value{Kind: 3}),
		"the last kind":      with(api.Value{Kind: 255}),
		"over with a number": with(api.Value{Kind: api.Over, N: 1}),
		"void with a number": with(api.Value{Kind: api.Void, N: -1}),
		"a wrong first one":  {row(4, group, three...), row(13, group, three...)},
		"a zero row":         {{}},
	}
}

// P23.3: rows that are not right are refused, with any filling; what is not told may be anything.
func TestWrongRows(t *testing.T) {
	for name, rows := range wrongRows() {
		for _, fill := range []api.FillKind{api.NoFill, api.FillLast, api.FillWith} {
			q := rowsQuery(t)
			q.Fill = fill
			writes, a := Writes(q, rows)
			filled, b := Fill(q, rows)
			printed, c := Print(q, rows)
			for _, err := range []error{a, b, c} {
				fails(t, name, err, api.ErrRange)
			}
			if writes != nil || filled != nil || printed != "" {
				t.Errorf("%s: %v, %v, %q with an error", name, writes, filled, printed)
			}
		}
	}
	q := rowsQuery(t)
	group := []string{"\xff\n", strings.Repeat("t", 300)}
	rows := []api.Row{row(3, group, api.Told{Value: api.Value{Kind: 9, N: 9}}, told(2), api.Told{Value: api.Value{Kind: api.Over, N: 1}})}
	_, a := Writes(q, rows)
	_, b := Fill(q, rows)
	_, c := Print(q, rows)
	for _, err := range []error{a, b, c} {
		fails(t, "what is not told, and any texts", err, 0)
	}
}

// P3: what is handed in stays, and what is told lies by itself.
func TestWritesMemory(t *testing.T) {
	d := draw()
	for range 2000 {
		q := someQuery(d)
		rows := someRows(d, q)
		inQuery, in := copyQuery(q), copyRows(rows)
		got, err := Writes(inQuery, in)
		want := copyWrites(got)
		for i := range got {
			sample.Fill(got[i].Series.Tags, api.Tag{Key: "spoilt"})
			sample.Fill(want[i].Series.Tags, api.Tag{Key: "spoilt"})
			if !sameWrites(got, want) {
				t.Fatalf("%v, not %v", got, want)
			}
		}
		first, _ := Writes(q, rows)
		second, again := Writes(inQuery, in)
		if !sameWrites(first, second) || fault.Code(err) != fault.Code(again) {
			t.Fatalf("%v, not %v", second, first)
		}
		if _, err := Print(inQuery, in); err != nil && ast.Right(q) == nil {
			t.Fatalf("%v: %v", rows, err)
		}
		if !reflect.DeepEqual(spareQuery(inQuery), spareQuery(copyQuery(q))) || !reflect.DeepEqual(spareRows(in), spareRows(copyRows(rows))) {
			t.Fatalf("%v, %v, not %v, %v", inQuery, in, q, rows)
		}
	}
}
