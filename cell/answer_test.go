package cell

import (
	"math"
	"math/big"
	"reflect"
	"slices"
	"strconv"
	"strings"
	"testing"

	"weir/api"
	"weir/ast"
	"weir/batch"
	"weir/expect"
	"weir/fault"
	"weir/sample"
)

// asked is Answer of samples of the field v, one a time from 1 on, of a query with one item, without groups.
func asked(t *testing.T, item string, numbers ...int64) []api.Told {
	t.Helper()
	var l []api.Write
	for i, n := range numbers {
		l = append(l, write("v", "", "", 1+int64(i), number(n)))
	}
	rows, err := Answer(queryOf(t, "SELECT "+item+" AS m FROM cpu GROUP BY time(1h)"), l)
	fails(t, item, err, 0)
	if len(rows) == 0 {
		return nil
	}
	if len(rows) > 1 || rows[0].Cell.Start != 0 || len(rows[0].Cell.Group) > 0 {
		t.Errorf("%s: %v", item, rows)
	}
	return rows[0].Items
}

// The chapter's second example, and what DOC.md says of functions and operators.
func TestSecondExample(t *testing.T) {
	const big = 1 << 62
	for _, c := range []struct {
		item    string
		numbers []int64
		want    api.Told
	}{
		{"mean(v)", []int64{4, 7}, told(5)},
		{"mean(v)", []int64{-9, 6}, told(-2)},
		{"mean(v)", []int64{big, big}, told(big)},
		{"mean(v)", []int64{math.MinInt64, math.MinInt64}, told(math.MinInt64)},
		{"sum(v)", []int64{big, big}, over},
		{"sum(v)", []int64{math.MaxInt64, math.MaxInt64, math.MinInt64, math.MinInt64, 1}, told(-1)},
		{"spread(v)", []int64{big, -big}, over},
		{"spread(v)", []int64{big, -big + 1}, told(math.MaxInt64)},
		{"spread(v)", []int64{5}, told(0)},
		{"count(v)", []int64{9, 9, 9}, told(3)},
		{"min(v)", []int64{3, -4, 5}, told(-4)},
		{"max(v)", []int64{3, -4, 5}, told(5)},
		{"first(v)", []int64{3, -4, 5}, told(3)},
		{"last(v)", []int64{3, -4, 5}, told(5)},
		{"sum(v) / 0", []int64{1}, void},
		{"sum(v) % 0", []int64{1}, void},
		{"sum(v) / 0", []int64{big, big}, over},
		{"sum(v) / 0 + spread(v)", []int64{big, -big}, over},
		{"1 / 0 * count(v)", []int64{1}, void},
		{"sum(v) - sum(v)", []int64{big, big}, over},
		{"-sum(v)", []int64{math.MinInt64}, over},
		{"-sum(v)", []int64{7}, told(-7)},
		{"sum(v) / 2", []int64{-7}, told(-4)},
		{"sum(v) % 2", []int64{-7}, told(1)},
		{"sum(v) % -2", []int64{7}, told(-1)},
		{"sum(v) / -1", []int64{math.MinInt64}, over},
		{"sum(v) % -1", []int64{math.MinInt64}, told(0)},
		{"10 - sum(v) - 1", []int64{2}, told(7)},
		{"10 - (sum(v) - 1)", []int64{2}, told(9)},
		{"max(v) * max(v)", []int64{1 << 32}, over},
	} {
		if got := asked(t, c.item, c.numbers...); !slices.Equal(got, []api.Told{c.want}) {
			t.Errorf("%s of %v: %v, not %v", c.item, c.numbers, got, c.want)
		}
	}
	for _, item := range []string{"count(w)", "count(w) * 0", "sum(w) / 0", "-min(w)", "sum(v) + sum(w)", "mean(w)", "first(w)", "last(w)", "spread(w)"} {
		if got := asked(t, item, 1, 2); got != nil {
			t.Errorf("%s: %v", item, got)
		}
	}
}

// P23.2: of several at one time the least and the greatest series tell the first and the last number.
func TestOneTime(t *testing.T) {
	q := queryOf(t, "SELECT first(v) AS f, last(v) AS l FROM cpu GROUP BY time(100ns)")
	// By rising series: fewer tags first, then their keys and values.
	l := []api.Write{
		write("v", "", "", 50, number(1)), write("v", "a", "", 50, number(2)), write("v", "a", "z", 50, number(3)),
		write("v", "b", "", 50, number(4)), write("v", "", "a", 50, number(5)),
	}
	for from := range l {
		for to := from; to < len(l); to++ {
			some := slices.Concat(l[from:to+1], []api.Write{write("w", "", "zz", 50, number(9)), write("w", "", "", 50, number(9))})
			slices.Reverse(some)
			want := []api.Row{row(0, nil, told(int64(from+1)), told(int64(to+1)))}
			if rows, err := Answer(q, some); err != nil || !sameRows(rows, want) {
				t.Errorf("%v, %v, not %v", rows, err, want)
			}
		}
	}
	// The time counts ahead of the series.
	l = append(l, write("v", "", "zzz", 49, number(6)), write("v", "", "", 51, number(7)))
	if rows, err := Answer(q, l); err != nil || !sameRows(rows, []api.Row{row(0, nil, told(6), told(7))}) {
		t.Errorf("%v, %v", rows, err)
	}
}

// P23.2: the last write of a series and time counts, be it a mark.
func TestOverOneAnother(t *testing.T) {
	q := queryOf(t, "SELECT sum(v) AS s, count(v) AS c FROM cpu GROUP BY time(10ns)")
	one, two, mark := write("v", "a", "", 5, number(1)), write("v", "a", "", 5, number(2)), write("v", "a", "", 5, api.Value{Kind: api.Void})
	for _, c := range []struct {
		l    []api.Write
		want []api.Row
	}{
		{[]api.Write{one, two}, []api.Row{row(0, nil, told(2), told(1))}},
		{[]api.Write{two, one}, []api.Row{row(0, nil, told(1), told(1))}},
		{[]api.Write{one, mark}, nil},
		{[]api.Write{mark, one}, []api.Row{row(0, nil, told(1), told(1))}},
		{[]api.Write{one, write("v", "b", "", 5, number(5)), mark}, []api.Row{row(0, nil, told(5), told(1))}},
	} {
		if rows, err := Answer(q, c.l); err != nil || !sameRows(rows, c.want) {
			t.Errorf("%v: %v, %v, not %v", c.l, rows, err, c.want)
		}
	}
}

// P23.2: rows stand by their start, then by the groups' texts, and tell of each item.
func TestRows(t *testing.T) {
	q := queryOf(t, "SELECT sum(v) AS s, max(w) AS m INTO t FROM cpu WHERE host != 'x' AND time < 25 GROUP BY time(10ns, 3ns), zone, host FILL(7)")
	q.Fill, q.FillN = api.FillLast, 0
	l := []api.Write{
		write("v", "b", "", 24, number(1)), write("v", "a", "", 13, number(2)), write("v", "a", "z", 12, number(3)), write("w", "a", "z", 3, number(4)),
		write("v", "x", "", 3, number(5)), write("v", "a", "", 25, number(6)), write("v", "", "", 22, number(7)), write("w", "", "", 2, number(8)),
		write("u", "a", "b", 4, number(9)),
	}
	want := []api.Row{
		row(-7, []string{"", ""}, api.Told{}, told(8)), row(3, []string{"z", "a"}, told(3), told(4)),
		row(13, []string{"", ""}, told(7), api.Told{}), row(13, []string{"", "a"}, told(2), api.Told{}), row(23, []string{"", "b"}, told(1), api.Told{}),
	}
	if rows, err := Answer(q, l); err != nil || !sameRows(rows, want) {
		t.Errorf("%v, %v, not %v", rows, err, want)
	}
	if rows, err := Answer(q, nil); err != nil || len(rows) > 0 {
		t.Errorf("of nothing: %v, %v", rows, err)
	}
}

// P23.2: a window that starts outside int64 is wrong, if a sample counts there, whatever its field.
func TestOutside(t *testing.T) {
	q := queryOf(t, "SELECT sum(v) AS s FROM cpu WHERE host = 'a' GROUP BY time(7ns)")
	early := int64(math.MinInt64)
	other := write("v", "a", "", early, number(1))
	other.Series.Measure = "mem"
	for name, c := range map[string]struct {
		w     api.Write
		wrong bool
	}{
		"it counts":       {write("v", "a", "", early, number(1)), true},
		"another field":   {write("w", "a", "", early, number(1)), true},
		"a mark":          {write("v", "a", "", early, api.Value{Kind: api.Over}), false},
		"no condition":    {write("v", "b", "", early, number(1)), false},
		"another measure": {other, false},
		"the next window": {write("v", "a", "", early+7, number(1)), false},
	} {
		rows, err := Answer(q, []api.Write{write("v", "a", "", 0, number(1)), c.w})
		if c.wrong {
			fails(t, name, err, api.ErrRange)
			if rows != nil {
				t.Errorf("%s: %v with an error", name, rows)
			}
		} else {
			fails(t, name, err, 0)
		}
	}
	q.Where = nil
	if rows, err := Answer(q, []api.Write{write("v", "a", "", math.MaxInt64, number(1))}); err != nil || !sameRows(rows, []api.Row{row(math.MaxInt64, nil, told(1))}) {
		t.Errorf("%v, %v", rows, err)
	}
}

// wrongQueries are such that ast.Right has an error, with an index where that tells one.
func wrongQueries() map[string]func(q *api.Query) {
	return map[string]func(q *api.Query){
		"no item":       func(q *api.Query) { q.Items = nil },
		"many items":    func(q *api.Query) { q.Items = slices.Repeat(q.Items[:1], api.MaxFields+1) },
		"no tree":       func(q *api.Query) { q.Items[1].Tree = nil },
		"a condition":   func(q *api.Query) { q.Items[0].Tree = sample.Over(api.OpTrue) },
		"an alias":      func(q *api.Query) { q.Items[1].Alias.Text = "time" },
		"into":          func(q *api.Query) { q.Into.Text = "\n" },
		"from":          func(q *api.Query) { q.From.Text = "" },
		"where":         func(q *api.Query) { q.Where = sample.Over(api.OpAnd) },
		"deep":          func(q *api.Query) { q.Items[0].Tree = sample.Neg(api.MaxDeep, sample.Int(1)) },
		"every":         func(q *api.Query) { q.Every = 0 },
		"a long one":    func(q *api.Query) { q.Every = api.MaxEvery + 1 },
		"offset":        func(q *api.Query) { q.Offset = q.Every },
		"a group":       func(q *api.Query) { q.Groups[0].Text = "time" },
		"many groups":   func(q *api.Query) { q.Groups = slices.Repeat(q.Groups[:1], api.MaxTags+1) },
		"a filling":     func(q *api.Query) { q.Fill = 3 },
		"a fill number": func(q *api.Query) { q.FillN = 1 },
		"a long text": func(q *api.Query) {
			q.Where = sample.Above(api.OpIn, slices.Repeat([]api.Node{sample.Text(strings.Repeat("t", api.MaxText))}, 20)...)
		},
	}
}

// P23.2, P23.3: what ast.Right finds wrong is told ahead of all else.
func TestWrongQueries(t *testing.T) {
	rows := []api.Row{row(1, nil)}
	for name, spoil := range wrongQueries() {
		q := queryOf(t, "SELECT sum(v) AS s, max(v) FROM cpu GROUP BY time(7ns), host")
		spoil(&q)
		want := ast.Right(q)
		if want == nil {
			t.Errorf("%s is right", name)
		}
		index, has := fault.Index(want)
		if !has {
			index = expect.None
		}
		answered, a := Answer(q, []api.Write{write("v", "", "", math.MinInt64, number(1))})
		writes, b := Writes(q, rows)
		filled, c := Fill(q, rows)
		printed, d := Print(q, rows)
		for _, err := range []error{a, b, c, d} {
			if wrong := expect.Wrong(err, fault.Code(want), expect.None, index); wrong != "" {
				t.Errorf("%s: %v: %s", name, err, wrong)
			}
		}
		if answered != nil || writes != nil || filled != nil || printed != "" {
			t.Errorf("%s: %v, %v, %v, %q with an error", name, answered, writes, filled, printed)
		}
	}
}

// P23.2: what is answered is what the query means, told anew.
func TestAnyAnswers(t *testing.T) {
	d := draw()
	rows, long := 0, 0
	for range 25000 {
		q := someQuery(d)
		l := someWrites(d, d(14))
		if d(30) == 0 {
			l = append(l, write("v", "a", "", sample.One[int64](d, math.MinInt64, math.MaxInt64), number(1)))
		}
		if ast.Right(q) != nil {
			long++
			continue
		}
		got, err := Answer(q, l)
		want, inside := meant(q, l)
		if !inside {
			fails(t, q, err, api.ErrRange)
			continue
		}
		if fails(t, q, err, 0); !sameRows(got, want) {
			t.Fatalf("%v of %v: %v, not %v", q, l, got, want)
		}
		rows += len(got)
	}
	if rows < 20000 || long > 100 {
		t.Errorf("%d rows, %d queries that are too long", rows, long)
	}
}

// P23.4: what plays no part may be left out, and two rows of samples lie over each other.
func TestNoPart(t *testing.T) {
	d := draw()
	for range 5000 {
		q, one, two := someQuery(d), someWrites(d, d(12)), someWrites(d, d(12))
		both, err := Answer(q, slices.Concat(one, two))
		merged, again := Answer(q, batch.Merge(one, two))
		if !sameRows(both, merged) || fault.Code(err) != fault.Code(again) {
			t.Fatalf("%v of %v, %v: %v, not %v", q, one, two, merged, both)
		}
		all, _ := counted(q, slices.Concat(one, two))
		var counts []api.Write
		for _, x := range sample.Shuffled(d, all) {
			counts = append(counts, x.Write)
		}
		if alone, err := Answer(q, counts); err != nil || !sameRows(alone, both) {
			t.Fatalf("%v of %v: %v, %v, not %v", q, counts, alone, err, both)
		}
	}
}

// P23.5: what a cell tells hangs on what lies there.
func TestCellAlone(t *testing.T) {
	d := draw()
	for range 2000 {
		q, l := someQuery(d), someWrites(d, d(14))
		rows, _ := Answer(q, l)
		all, _ := counted(q, l)
		for _, r := range rows {
			var its []api.Write
			for _, x := range all {
				if sameCells(x.cell, r.Cell) {
					its = append(its, x.Write)
				}
			}
			if alone, err := Answer(q, its); err != nil || !sameRows(alone, []api.Row{r}) {
				t.Fatalf("%v of %v: %v, %v, not %v", q, its, alone, err, r)
			}
		}
	}
}

// P23.8: how what functions tell stands to one another.
func TestBetween(t *testing.T) {
	d := draw()
	q := queryOf(t, "SELECT count(v), sum(v), mean(v), min(v), max(v), first(v), last(v) FROM cpu GROUP BY time(20ns), host")
	for range 5000 {
		rows, err := Answer(q, someWrites(d, 1+d(14)))
		fails(t, q, err, 0)
		for _, r := range rows {
			count, sum, least, most := r.Items[0].Value.N, r.Items[1].Value, r.Items[3].Value.N, r.Items[4].Value.N
			for _, i := range []int{2, 5, 6} {
				if one := r.Items[i].Value; one.Kind != api.Int || one.N < least || one.N > most {
					t.Errorf("%v", r)
				}
			}
			times := func(n int64) int {
				return big.NewInt(sum.N).Cmp(new(big.Int).Mul(big.NewInt(count), big.NewInt(n)))
			}
			if count < 1 || sum.Kind == api.Int && (times(least) < 0 || times(most) > 0) {
				t.Errorf("%v", r)
			}
		}
	}
}

// P23.6: rows of Answer are right, and each tells something.
func TestRowsOfAnswer(t *testing.T) {
	d := draw()
	for range 3000 {
		q := someQuery(d)
		rows, err := Answer(q, someWrites(d, d(14)))
		if err != nil {
			continue
		}
		_, err = Print(q, rows)
		if fails(t, q, err, 0); slices.ContainsFunc(rows, func(r api.Row) bool { return !slices.ContainsFunc(r.Items, func(o api.Told) bool { return o.Some }) }) {
			t.Fatalf("%v: %v", q, rows)
		}
	}
}

// An item without a call tells its number in each cell in which a sample counts, of whatever field.
func TestNumberAlone(t *testing.T) {
	q := queryOf(t, "SELECT 2 + 3 AS five, count(w) AS c FROM cpu WHERE host != 'x' GROUP BY time(10ns)")
	l := []api.Write{write("v", "", "", 1, number(1)), write("w", "", "", 25, number(1)), write("v", "x", "", 35, number(1)), write("v", "", "", 45, api.Value{Kind: api.Over})}
	want := []api.Row{row(0, nil, told(5), api.Told{}), row(20, nil, told(5), told(1))}
	if rows, err := Answer(q, l); err != nil || !sameRows(rows, want) {
		t.Errorf("%v, %v, not %v", rows, err, want)
	}
}

// Groups whose texts look alike when they are laid together are unlike.
func TestUnlikeGroups(t *testing.T) {
	q := queryOf(t, "SELECT count(v) AS c FROM cpu GROUP BY time(10ns), host, zone")
	pairs := [][2]string{{"a,", "b"}, {"a", ",b"}, {"a,b", ""}, {"", "a,b"}, {`a\`, "b"}, {"a", `\b`}, {"1", "0"}, {"", "10"}, {"10", ""}}
	var l []api.Write
	for _, p := range pairs {
		l = append(l, write("v", p[0], p[1], 1, number(1)))
	}
	rows, err := Answer(q, l)
	if fails(t, pairs, err, 0); len(rows) != len(pairs) {
		t.Errorf("%v", rows)
	}
}

// The most samples of some tables, in windows of many kinds.
func TestMany(t *testing.T) {
	const many = 100000
	var l []api.Write
	for i := range int64(many) {
		l = append(l, write("v", "h"+strconv.FormatInt(i%10, 10), "", i, number(i)))
	}
	q := queryOf(t, "SELECT count(v) AS c, sum(v) AS s, first(v) AS f, last(v) AS l FROM cpu WHERE NOT host = 'h3' GROUP BY time(1000ns)")
	rows, err := Answer(q, l)
	if fails(t, "many", err, 0); len(rows) != many/1000 {
		t.Fatalf("%d rows", len(rows))
	}
	for i, r := range rows {
		start := int64(i) * 1000
		// Of the window's numbers all but those that end in 3.
		sum := start*1000 + 999*1000/2 - (start*100 + 3*100 + 10*99*100/2)
		if want := row(start, nil, told(900), told(sum), told(start), told(start+999)); !sameRows([]api.Row{r}, []api.Row{want}) {
			t.Fatalf("%v, not %v", r, want)
		}
	}
}

// P3: what is handed in stays, and what is answered lies by itself.
func TestAnswerMemory(t *testing.T) {
	d := draw()
	for range 2000 {
		q, l := someQuery(d), someWrites(d, d(14))
		inQuery, in := copyQuery(q), copyWrites(l)
		rows, err := Answer(inQuery, in)
		apart(t, rows)
		want, again := Answer(q, l)
		if second, _ := Answer(inQuery, in); !sameRows(second, want) || fault.Code(err) != fault.Code(again) {
			t.Fatalf("%v, not %v", second, want)
		}
		if !reflect.DeepEqual(spareQuery(inQuery), spareQuery(copyQuery(q))) || !reflect.DeepEqual(spareWrites(in), spareWrites(copyWrites(l))) {
			t.Fatalf("%v, %v, not %v, %v", inQuery, in, q, l)
		}
	}
}

// apart changes each list of rows, one by one, and all that lies behind it, and looks whether another one has become another.
func apart(t *testing.T, rows []api.Row) {
	t.Helper()
	want := copyRows(rows)
	for i := range rows {
		sample.Fill(rows[i].Cell.Group, "spoilt")
		sample.Fill(want[i].Cell.Group, "spoilt")
		if !sameRows(rows, want) {
			t.Fatalf("%v, not %v", rows, want)
		}
		sample.Fill(rows[i].Items, told(77))
		sample.Fill(want[i].Items, told(77))
		if !sameRows(rows, want) {
			t.Fatalf("%v, not %v", rows, want)
		}
	}
}
