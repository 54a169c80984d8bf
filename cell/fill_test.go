package cell

import (
	"math"
	"reflect"
	"slices"
	"strings"
	"testing"

	"weir/api"
	"weir/ast"
	"weir/sample"
)

// The chapter's third example.
func TestThirdExample(t *testing.T) {
	rows := []api.Row{row(0, nil, told(4)), row(30, nil, told(7))}
	for fill, want := range map[string][]int64{" FILL(last)": {4, 4, 4, 7}, " FILL(0)": {4, 0, 0, 7}, " FILL(-3)": {4, -3, -3, 7}} {
		got, err := Fill(queryOf(t, "SELECT max(v) AS m FROM cpu GROUP BY time(10ns)"+fill), rows)
		var all []api.Row
		for i, n := range want {
			all = append(all, row(int64(i)*10, nil, told(n)))
		}
		if fails(t, fill, err, 0); !sameRows(got, all) {
			t.Errorf("%s: %v, not %v", fill, got, all)
		}
	}
	if got, err := Fill(queryOf(t, "SELECT max(v) AS m FROM cpu GROUP BY time(10ns)"), rows); err != nil || !sameRows(got, rows) {
		t.Errorf("%v, %v", got, err)
	}
}

// P23.3: each group has its own windows, marks are told on, and what was told nowhere ahead stays nothing.
func TestGroupsFilled(t *testing.T) {
	q := queryOf(t, "SELECT max(v) AS m, min(v) AS n FROM cpu GROUP BY time(10ns), host FILL(last)")
	none := api.Told{}
	a, b := []string{"a"}, []string{""}
	rows := []api.Row{
		row(-10, a, none, told(1)), row(0, b, void, told(2)), row(20, b, none, told(3)), row(20, a, over, none), row(30, a, none, none), row(50, []string{"c"}, none, told(9)),
	}
	want := []api.Row{
		row(-10, a, none, told(1)), row(0, b, void, told(2)), row(0, a, none, told(1)), row(10, b, void, told(2)), row(10, a, none, told(1)),
		row(20, b, void, told(3)), row(20, a, over, told(1)), row(30, a, over, told(1)), row(50, []string{"c"}, none, told(9)),
	}
	if got, err := Fill(q, rows); err != nil || !sameRows(got, want) {
		t.Errorf("%v, %v, not %v", got, err, want)
	}
	q.Fill, q.FillN = api.FillWith, math.MaxInt64
	for i := range want {
		for k := range want[i].Items {
			want[i].Items[k] = told(math.MaxInt64)
		}
	}
	for _, r := range rows {
		at := slices.IndexFunc(want, func(w api.Row) bool { return sameCells(w.Cell, r.Cell) })
		for k, one := range r.Items {
			if one.Some {
				want[at].Items[k] = one
			}
		}
	}
	if got, err := Fill(q, rows); err != nil || !sameRows(got, want) {
		t.Errorf("%v, %v, not %v", got, err, want)
	}
}

// P23.3: how many windows there may be, of one group and of several.
func TestLong(t *testing.T) {
	const most = api.MaxRows
	text := "SELECT max(v) AS m FROM cpu GROUP BY time(10ns), host FILL(1)"
	from := func(group string, first int64, windows ...int64) (rows []api.Row) {
		for _, w := range windows {
			rows = append(rows, row(first+w*10, []string{group}, told(w)))
		}
		return rows
	}
	inOrder := func(l ...[]api.Row) []api.Row {
		rows := slices.Concat(l...)
		slices.SortFunc(rows, func(a, b api.Row) int { return Compare(a.Cell, b.Cell) })
		return rows
	}
	for name, c := range map[string]struct {
		rows    []api.Row
		windows int // 0: too many
	}{
		"as many as may be":    {from("a", -70, 0, 5, most-1), most},
		"one more":             {from("a", -70, 0, 5, most), 0},
		"two groups":           {inOrder(from("a", 0, 0, most-10), from("b", 500, 3, 11)), most},
		"two groups, one more": {inOrder(from("a", 0, 0, most-10), from("b", 500, 3, 12)), 0},
		"a single one more":    {inOrder(from("a", 0, 0, most-1), from("b", 0, 5)), 0},
		"far apart":            {inOrder(from("a", math.MinInt64+8, 0), from("b", math.MaxInt64-7, 0)), 2},
		"far apart, one group": {inOrder(from("a", math.MinInt64+8, 0), from("a", math.MaxInt64-7, 0)), 0},
		"none":                 {nil, 0},
	} {
		for _, fill := range []api.FillKind{api.FillLast, api.FillWith} {
			q := queryOf(t, text)
			if q.Fill = fill; fill == api.FillLast {
				q.FillN = 0
			}
			got, err := Fill(q, c.rows)
			if c.windows == 0 && len(c.rows) > 0 {
				if fails(t, name, err, api.ErrLong); got != nil {
					t.Errorf("%s: %d rows with an error", name, len(got))
				}
			} else if fails(t, name, err, 0); len(got) != c.windows {
				t.Errorf("%s: %d rows, not %d", name, len(got), c.windows)
			}
		}
		q := queryOf(t, strings.TrimSuffix(text, " FILL(1)"))
		if got, err := Fill(q, c.rows); err != nil || !sameRows(got, c.rows) {
			t.Errorf("%s: %d rows, %v, without a filling", name, len(got), err)
		}
	}
}

// P23.3: the widest windows, over all of int64, are few.
func TestWide(t *testing.T) {
	q := queryOf(t, "SELECT max(v) AS m FROM cpu GROUP BY time(1ns) FILL(last)")
	q.Every = api.MaxEvery
	rows := []api.Row{row(math.MinInt64, nil, told(1)), row(math.MaxInt64-api.MaxEvery+1, nil, told(2))}
	got, err := Fill(q, rows)
	if fails(t, "wide", err, 0); len(got) != 64 || got[0].Cell.Start != math.MinInt64 || got[62].Items[0] != told(1) || got[63].Items[0] != told(2) {
		t.Errorf("%v", got)
	}
	q.Every = 1
	_, err = Fill(q, []api.Row{row(math.MinInt64, nil, told(1)), row(math.MaxInt64, nil, told(2))})
	fails(t, "all times", err, api.ErrLong)
}

// More rows than may be are answered as they are, if nothing is to be filled.
func TestNoFillLong(t *testing.T) {
	var rows []api.Row
	for i := range int64(api.MaxRows + 1) {
		rows = append(rows, row(i, nil, told(i)))
	}
	q := queryOf(t, "SELECT max(v) AS m FROM cpu GROUP BY time(1ns)")
	if got, err := Fill(q, rows); err != nil || !sameRows(got, rows) {
		t.Errorf("%d rows, %v", len(got), err)
	}
	q.Fill = api.FillLast
	_, err := Fill(q, rows)
	fails(t, "filled", err, api.ErrLong)
	if got, err := Fill(q, rows[1:]); err != nil || !sameRows(got, rows[1:]) {
		t.Errorf("%d rows, %v", len(got), err)
	}
}

// filled is Fill told anew: for each row's group each window is asked for what is told there, and ahead of it.
func filled(q api.Query, rows []api.Row) []api.Row {
	rows = plainly(rows)
	if q.Fill == api.NoFill {
		return rows
	}
	var all []api.Row
	for _, r := range rows {
		its := slices.DeleteFunc(slices.Clone(rows), func(o api.Row) bool { return !slices.Equal(o.Cell.Group, r.Cell.Group) })
		if its[0].Cell.Start != r.Cell.Start {
			continue
		}
		for start := r.Cell.Start; start <= its[len(its)-1].Cell.Start; start += q.Every {
			items := make([]api.Told, len(q.Items))
			for i := range items {
				for _, o := range its {
					if o.Cell.Start <= start && o.Items[i].Some && (q.Fill == api.FillLast || o.Cell.Start == start) {
						items[i] = o.Items[i]
					}
				}
				if !items[i].Some && q.Fill == api.FillWith {
					items[i] = told(q.FillN)
				}
			}
			all = append(all, row(start, r.Cell.Group, items...))
		}
	}
	slices.SortFunc(all, func(a, b api.Row) int { return Compare(a.Cell, b.Cell) })
	return all
}

// P23.3, P23.6: any rows, told anew; what is filled is filled.
func TestAnyFilled(t *testing.T) {
	d := draw()
	added := 0
	for range 10000 {
		q := someQuery(d)
		if ast.Right(q) != nil {
			continue
		}
		rows := someRows(d, q)
		got, err := Fill(q, rows)
		want := filled(q, rows)
		if fails(t, q, err, 0); !sameRows(got, want) {
			t.Fatalf("%v of %v: %v, not %v", q, rows, got, want)
		}
		if again, err := Fill(q, got); err != nil || !sameRows(again, got) {
			t.Fatalf("%v of %v: %v, %v", q, got, again, err)
		}
		added += len(got) - len(rows)
	}
	if added < 10000 {
		t.Errorf("%d rows were added", added)
	}
}

// P23.6: without a gap no row is added.
func TestNoGap(t *testing.T) {
	q := queryOf(t, "SELECT max(v) AS m FROM cpu GROUP BY time(10ns), host FILL(5)")
	rows := []api.Row{
		row(0, []string{"a"}, told(1)), row(10, []string{"a"}, api.Told{}), row(10, []string{"b"}, told(2)), row(20, []string{"a"}, told(3)), row(20, []string{"b"}, told(4)),
	}
	want := slices.Clone(rows)
	want[1] = row(10, []string{"a"}, told(5))
	if got, err := Fill(q, rows); err != nil || !sameRows(got, want) {
		t.Errorf("%v, %v, not %v", got, err, want)
	}
}

// P3: what is handed in stays, and what is told lies by itself.
func TestFillMemory(t *testing.T) {
	d := draw()
	for range 2000 {
		q := someQuery(d)
		rows := someRows(d, q)
		inQuery, in := copyQuery(q), copyRows(rows)
		got, _ := Fill(inQuery, in)
		apart(t, got)
		if !reflect.DeepEqual(spareQuery(inQuery), spareQuery(copyQuery(q))) || !reflect.DeepEqual(spareRows(in), spareRows(copyRows(rows))) {
			t.Fatalf("%v, %v, not %v, %v", inQuery, in, q, rows)
		}
		sample.Fill(got, api.Row{})
		first, _ := Fill(q, rows)
		if second, _ := Fill(inQuery, in); !sameRows(first, second) {
			t.Fatalf("%v, not %v", second, first)
		}
	}
}
