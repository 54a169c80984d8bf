package engine

import (
	"fmt"
	"math"
	"slices"
	"strings"
	"testing"

	"weir/api"
	"weir/cell"
	"weir/check"
	"weir/line"
	"weir/parse"
	"weir/sample"
)

// The ten examples of the whole.
func TestExamples(t *testing.T) {
	e := begin(t)
	if n := register(t, e, mean); n != 1 {
		t.Errorf("%d", n)
	}
	tells(t, e, "hourly", "")
	for _, c := range [][2]string{{"cpu,host=a v=4i 10", "4"}, {"cpu,host=a v=7i 20", "5"}, {"cpu,host=a v=6i 20", "5"}, {"cpu,host=a v=-9i 10", "-2"}} {
		if n := write(t, e, c[0]); n != 1 {
			t.Errorf("%s: %d", c[0], n)
		}
		tells(t, e, "hourly", "hourly,host=a m 0 "+c[1])
	}
	leaves(t, e, "another measure", func() (int, error) { return e.Write("cpu v=1i 1\nmem v=1i 1\n") }, api.ErrMeasure, none, 1)
	n, err := e.Delete("cpu", "", 0, 100)
	well(t, "Delete", err)
	is(t, "Delete", n, 2)
	tells(t, e, "hourly", "")
	write(t, e, "cpu,host=a v=4i 10")
	register(t, e, "SELECT sum(v) AS s, mean(v) AS m INTO t FROM cpu WHERE zone = 'z' GROUP BY time(1h)")
	write(t, e, "cpu,zone=z v=4611686018427387904i 1", "cpu,zone=z v=4611686018427387904i 2")
	tells(t, e, "t", "t m 0 4611686018427387904; t s 0 over")
	register(t, e, "SELECT max(m) AS top INTO daily FROM hourly GROUP BY time(1d)")
	tells(t, e, "daily", "daily top 0 4611686018427387904")
	write(t, e, "cpu,host=a,zone=z v=1i 3600000000000", "cpu,zone=z v=0i 1")
	tells(t, e, "daily", "daily top 0 2305843009213693952")
	leaves(t, e, "no query", func() (int, error) { return e.Register("SELECT mean(v INTO x FROM cpu GROUP BY time(1h)") }, api.ErrSyntax, 14, none)
	leaves(t, e, "twice", func() (int, error) { return e.Register(mean) }, api.ErrTarget, 25, none)
	leaves(t, e, "Drop", func() (int, error) { return 0, e.Drop(1) }, api.ErrUsed, none, none)
	leaves(t, e, "Expire", func() (int, error) { return e.Expire("cpu", 5000) }, api.ErrEdge, none, none)
	is(t, "Expire", expire(t, e, "cpu", hour), 3)
	tells(t, e, "cpu", "cpu,host=a,zone=z v 3600000000000 1")
	tells(t, e, "hourly", "hourly m 0 2305843009213693952; hourly,host=a m 0 4; hourly,host=a m 3600000000000 1")
	leaves(t, e, "old", func() (int, error) { return e.Write("cpu,host=a v=1i 5") }, api.ErrOld, none, 0)
	leaves(t, e, "Expire", func() (int, error) { return e.Expire("cpu", hour+5000) }, api.ErrEdge, none, none)
	leaves(t, e, "Expire", func() (int, error) { return e.Expire("cpu", 5000) }, api.ErrRange, none, none)
	well(t, "Drop", e.Drop(3))
	well(t, "Drop", e.Drop(1))
	is(t, "Queries", e.Queries(), []int{2})
	_, err = e.Read("hourly", "", 0, 1)
	fails(t, "Read", err, api.ErrMeasure, none, none)
	if series, points := e.Count(); series != 3 || points != 5 {
		t.Errorf("%d series, %d samples", series, points)
	}
	if n := register(t, e, mean); n != 4 {
		t.Errorf("%d", n)
	}
	tells(t, e, "hourly", "hourly,host=a m 3600000000000 1")
}

// The chapter's examples.
func TestChapter(t *testing.T) {
	e := begin(t)
	register(t, e, mean)
	write(t, e, "cpu,host=a v=4i 10", fmt.Sprint("cpu,host=a v=8i ", hour))
	register(t, e, "SELECT count(m) AS n INTO deep FROM hourly GROUP BY time(1d)")
	tells(t, e, "deep", "deep n 0 2")
	leaves(t, e, "Delete", func() (int, error) { return e.Delete("hourly", "", 0, 9) }, api.ErrInto, none, none)
	leaves(t, e, "Delete", func() (int, error) { return e.Delete("cpu", "time > 5", 0, 9) }, api.ErrTree, none, none)
	_, err := e.Read("nope", "", 0, 9)
	fails(t, "Read", err, api.ErrMeasure, none, none)
	leaves(t, e, "Expire", func() (int, error) { return e.Expire("hourly", hour) }, api.ErrEdge, none, none)
	well(t, "Drop", e.Drop(2))
	is(t, "Expire", expire(t, e, "hourly", hour), 1)
	for _, text := range []string{"cpu,host=a v=5i 11", "cpu,host=b v=5i 12", "cpu,host=a v=6i 10"} {
		write(t, e, text)
		tells(t, e, "hourly", fmt.Sprint("hourly,host=a m ", hour, " 8"))
	}
}

// P26.1
func TestNew(t *testing.T) {
	for _, c := range []struct {
		l              []api.Table
		series, points int
		e              api.Errno
		index          int
	}{
		{nil, 0, 0, 0, none},
		{tables(), api.MaxSeries, api.MaxPoints, 0, none},
		{tables(), api.MaxSeries + 1, 5, api.ErrRange, none},
		{tables(), 5, api.MaxPoints + 1, api.ErrRange, none},
		{tables(), -1, 5, api.ErrRange, none},
		{tables(), 5, -1, api.ErrRange, none},
		{append(tables(), tables()[0]), 5, 5, api.ErrTwice, 2},
		{append(tables(), api.Table{Measure: "x"}), -1, 5, api.ErrField, 2},
		{make([]api.Table, api.MaxTables+1), -1, 5, api.ErrLong, none},
	} {
		e, err := New(c.l, c.series, c.points)
		fails(t, c, err, c.e, none, c.index)
		if c.e != 0 {
			if e != nil {
				t.Errorf("%v: an engine beside an error", c)
			}
			continue
		}
		modelOf(c.l, c.series, c.points).agrees(t, e)
	}
}

// full is an engine with as many queries as may be, one above the other as far as that may be.
func full(t *testing.T) *Engine {
	e := begin(t)
	from, name := "cpu", "v"
	for i := range api.MaxLevels {
		into := fmt.Sprint("l", i)
		register(t, e, fmt.Sprintf("SELECT max(%s) AS x INTO %s FROM %s GROUP BY time(1h)", name, into, from))
		from, name = into, "x"
	}
	for i := range api.MaxOpen - api.MaxLevels {
		register(t, e, fmt.Sprintf("SELECT max(v) AS x INTO o%d FROM cpu GROUP BY time(1h)", i))
	}
	return e
}

// P26.2: the first error that applies is told.
func TestRegisterRefused(t *testing.T) {
	refused := func(e *Engine, text string, want api.Errno, pos int) {
		t.Helper()
		leaves(t, e, text, func() (int, error) { return e.Register(text) }, want, pos, none)
	}
	e := full(t)
	refused(e, "SELECT", api.ErrSyntax, 6)
	refused(e, "SELECT max(v) FROM nope GROUP BY time(1h)", api.ErrMeasure, 19)
	refused(e, "SELECT max(v) INTO l0 FROM cpu GROUP BY time(1h)", api.ErrTarget, 19)
	refused(e, "SELECT max(v) INTO cpu FROM cpu GROUP BY time(1h)", api.ErrTarget, 19)
	refused(e, "SELECT max(y) FROM cpu GROUP BY time(1h)", api.ErrColumn, 7)
	refused(e, "SELECT max(v) INTO n FROM cpu GROUP BY time(1h) FILL(last)", api.ErrFill, 48)
	refused(e, "SELECT max(x) FROM l7 GROUP BY time(1h)", api.ErrTarget, none)
	refused(e, "SELECT max(x) INTO n FROM l7 GROUP BY time(1h)", api.ErrFull, none)
	well(t, "Drop", e.Drop(api.MaxOpen))
	refused(e, "SELECT max(x) INTO n FROM l7 GROUP BY time(1h)", api.ErrLevel, none)
	if n := register(t, e, "SELECT max(x) INTO n FROM l6 GROUP BY time(1h)"); n != api.MaxOpen+1 {
		t.Errorf("the number %d", n)
	}
	refused(e, "SELECT max(x) INTO m FROM l6 GROUP BY time(1h)", api.ErrFull, none)
	well(t, "Drop", e.Drop(api.MaxOpen+1))
	if n := register(t, e, "SELECT max(x) INTO n FROM l6 GROUP BY time(1h)"); n != api.MaxOpen+2 {
		t.Errorf("the number %d", n)
	}

	e = fresh(t, 3, 5)
	write(t, e, "cpu,host=a v=1i 1", "cpu,host=b v=1i 1", "cpu,host=b v=1i 3600000000000")
	refused(e, mean, api.ErrSeries, none)
	refused(e, "SELECT max(v) AS x INTO t FROM cpu GROUP BY time(1ns), host", api.ErrSeries, none)
	if n := register(t, e, "SELECT max(v) INTO t FROM cpu GROUP BY time(1h)"); n != 1 {
		t.Errorf("the number %d", n)
	}
	tells(t, e, "t", "t max_v 0 1; t max_v 3600000000000 1")
	e = fresh(t, 5, 5)
	write(t, e, "cpu,host=a v=1i 1", "cpu,host=b v=1i 1", "cpu,host=b v=1i 3600000000000")
	refused(e, mean, api.ErrPoints, none)
}

// P26.2: Drop.
func TestDrop(t *testing.T) {
	e := begin(t)
	register(t, e, mean)
	register(t, e, "SELECT max(m) AS top INTO daily FROM hourly GROUP BY time(1h)")
	write(t, e, "cpu,host=a v=4i 10")
	for _, id := range []int{0, -1, 3, math.MaxInt} {
		leaves(t, e, id, func() (int, error) { return 0, e.Drop(id) }, api.ErrQuery, none, none)
	}
	leaves(t, e, 1, func() (int, error) { return 0, e.Drop(1) }, api.ErrUsed, none, none)
	expire(t, e, "daily", hour)
	well(t, "Drop", e.Drop(2))
	leaves(t, e, 2, func() (int, error) { return 0, e.Drop(2) }, api.ErrQuery, none, none)
	if series, points := e.Count(); series != 2 || points != 2 {
		t.Errorf("%d series, %d samples", series, points)
	}
	_, err := e.Horizon("daily")
	fails(t, "Horizon", err, api.ErrMeasure, none, none)
	leaves(t, e, "a point", func() (int, error) { return e.Write("daily top=1i 5") }, api.ErrMeasure, none, 0)
	leaves(t, e, "a query", func() (int, error) { return e.Register("SELECT max(top) AS x INTO x FROM daily GROUP BY time(1h)") }, api.ErrMeasure, 33, none)
	// The horizon went with the target: all is there again.
	if n := register(t, e, "SELECT max(m) AS top INTO daily FROM hourly GROUP BY time(1h)"); n != 3 {
		t.Errorf("the number %d", n)
	}
	tells(t, e, "daily", "daily top 0 4")
}

// P26.3: the first error that applies is told, with the number of the point.
func TestPointsRefused(t *testing.T) {
	e := begin(t)
	register(t, e, mean)
	expire(t, e, "cpu", hour)
	one := field("v", 1)
	ok := point("a", hour, one)
	for _, c := range []struct {
		name string
		p    api.Point
		e    api.Errno
	}{
		{"no measure", api.Point{Measure: "", Fields: []api.Field{one}}, api.ErrName},
		{"no tags", api.Point{Measure: "hourly", Tags: []api.Tag{{Key: "host"}}, Fields: []api.Field{one}}, api.ErrTags},
		{"no fields", api.Point{Measure: "hourly"}, api.ErrField},
		{"no time", api.Point{Measure: "hourly", Fields: []api.Field{one}, Time: api.MaxTime + 1}, api.ErrRange},
		{"no time", point("a", -api.MaxTime-1, one), api.ErrRange},
		{"a target", api.Point{Measure: "hourly", Tags: []api.Tag{{Key: "nope", Value: "a"}}, Fields: []api.Field{one}}, api.ErrInto},
		{"no such measure", api.Point{Measure: "nope", Fields: []api.Field{one}}, api.ErrMeasure},
		{"no such field", point("a", 5, field("y", 1)), api.ErrColumn},
		{"no such tag", api.Point{Measure: "cpu", Tags: []api.Tag{{Key: "nope", Value: "a"}}, Fields: []api.Field{one}}, api.ErrColumn},
		{"old", point("a", hour-1, one), api.ErrOld},
		{"old", point("a", -api.MaxTime, one), api.ErrOld},
	} {
		leaves(t, e, c.name, func() (int, error) { return e.Points([]api.Point{c.p}) }, c.e, none, 0)
		leaves(t, e, c.name, func() (int, error) { return e.Points([]api.Point{ok, ok, c.p, {}}) }, c.e, none, 2)
	}
	leaves(t, e, "many", func() (int, error) { return e.Points(make([]api.Point, api.MaxBatch+1)) }, api.ErrLong, none, none)
	leaves(t, e, "many", func() (int, error) { return e.Points(make([]api.Point, api.MaxBatch)) }, api.ErrName, none, 0)
	n, err := e.Points(slices.Repeat([]api.Point{ok}, api.MaxBatch))
	well(t, "many", err)
	is(t, "Points", n, 1)
	tells(t, e, "hourly", "hourly,host=a m 3600000000000 1")
	other := api.Point{Measure: "net io", Fields: []api.Field{one}, Time: -api.MaxTime}
	if n, err = e.Points([]api.Point{other, point("a", hour, one, field("w", 2)), point("a", api.MaxTime, field("w", 1)), ok}); n != 3 || err != nil {
		t.Errorf("%d, %v", n, err)
	}
	if n, err = e.Points(nil); n != 0 || err != nil {
		t.Errorf("%d, %v", n, err)
	}
	leaves(t, e, "no line", func() (int, error) { return e.Write("# a\n\ncpu v=1i 3600000000000\ncpu v=x 1\n") }, api.ErrLine, 6, 3)
	leaves(t, e, "no such measure", func() (int, error) { return e.Write("# a\n\ncpu v=1i 3600000000000\nnope v=1i 1\n") }, api.ErrMeasure, none, 1)
	if n := write(t, e, "# a", "", `net\ io v=4i 4`, `net\ io v=5i 4`, `net\ io v=5i 5`); n != 2 {
		t.Errorf("%d", n)
	}
	tells(t, e, "net io", `net\ io v -4611686018427387904 1; net\ io v 4 5; net\ io v 5 5`)
	if n := write(t, e, ""); n != 0 {
		t.Errorf("%d", n)
	}
}

// P26.3, P26.4 (E4): room is looked at when all is done, at each level, and not ahead.
func TestRoom(t *testing.T) {
	// Tables may have for a moment what there is no room for: the row of the level above goes, for its source is a mark then.
	begun := func(series, points int) *Engine {
		e := fresh(t, series, points)
		register(t, e, "SELECT sum(v) AS s INTO t FROM cpu GROUP BY time(10ns)")
		register(t, e, "SELECT max(s) AS x, min(s) AS y INTO u FROM t GROUP BY time(10ns)")
		write(t, e, "cpu v=4611686018427387904i 1")
		return e
	}
	e := begun(4, 4)
	if series, points := e.Count(); series != 4 || points != 4 {
		t.Fatalf("%d series, %d samples", series, points)
	}
	if n := write(t, e, "cpu v=4611686018427387904i 2"); n != 1 {
		t.Errorf("%d", n)
	}
	tells(t, e, "t", "t s 0 over")
	tells(t, e, "u", "")
	write(t, e, "cpu,host=a v=0i 2")
	if series, points := e.Count(); series != 3 || points != 4 {
		t.Fatalf("%d series, %d samples", series, points)
	}
	// What is deleted lets the rows above come again: there is no room for all of them.
	leaves(t, e, "Delete", func() (int, error) { return e.Delete("cpu", "host = ''", 2, 3) }, api.ErrSeries, none, none)
	leaves(t, e, "a point", func() (int, error) { return e.Write("cpu v=-5i 2") }, api.ErrSeries, none, none)
	e = begun(5, 4)
	write(t, e, "cpu v=4611686018427387904i 2")
	write(t, e, "cpu,host=a v=0i 2")
	leaves(t, e, "Delete", func() (int, error) { return e.Delete("cpu", "host = ''", 2, 3) }, api.ErrPoints, none, none)
	leaves(t, e, "a point", func() (int, error) { return e.Write("cpu v=-5i 2") }, api.ErrPoints, none, none)
	n, err := e.Delete("cpu", "", 2, 3)
	well(t, "Delete", err)
	is(t, "Delete", n, 2)
	tells(t, e, "u", "u x 0 4611686018427387904; u y 0 4611686018427387904")

	// A point that takes a place of its own needs one for each row, too.
	e = fresh(t, 2, 3)
	register(t, e, "SELECT sum(v) AS s INTO t FROM cpu GROUP BY time(10ns)")
	write(t, e, "cpu v=1i 1")
	leaves(t, e, "another series", func() (int, error) { return e.Write("cpu,host=a v=1i 1") }, api.ErrSeries, none, none)
	leaves(t, e, "another window", func() (int, error) { return e.Write("cpu v=1i 11") }, api.ErrPoints, none, none)
	leaves(t, e, "both", func() (int, error) { return e.Write("cpu v=1i 2\ncpu,host=a v=1i 11") }, api.ErrSeries, none, none)
	write(t, e, "cpu v=1i 2")
	tells(t, e, "t", "t s 0 2")
	leaves(t, e, "one more", func() (int, error) { return e.Write("cpu v=1i 3") }, api.ErrPoints, none, none)
	// What went wrong is undone in the queries, too: they go on as if it had not been.
	write(t, e, "cpu v=7i 2")
	tells(t, e, "t", "t s 0 8")
}

// P26.4: the first error that applies is told.
func TestDeleteRefused(t *testing.T) {
	e := begin(t)
	register(t, e, mean)
	write(t, e, "cpu,host=a v=4i 10", "cpu,host=b v=4i 10", "cpu,host=b,zone=z w=4i 11")
	for _, c := range []struct {
		measure, cond string
		from, to      int64
		e             api.Errno
		pos           int
	}{
		{"nope", "host =", 5, 1, api.ErrMeasure, none},
		{"", "", 5, 9, api.ErrMeasure, none},
		{"hourly", "host =", 5, 1, api.ErrInto, none},
		{"cpu", "host =", 5, 1, api.ErrSyntax, 6},
		{"cpu", " ", 5, 1, api.ErrSyntax, 1},
		{"cpu", "'", 5, 1, api.ErrQuote, 0},
		{"cpu", "time > 5 AND nope = 'a'", 5, 1, api.ErrColumn, 13},
		{"net io", "host = 'a'", 5, 9, api.ErrColumn, 0},
		{"cpu", "time > 5", 5, 1, api.ErrTree, none},
		{"cpu", "host = 'a'", 5, 1, api.ErrRange, none},
	} {
		leaves(t, e, c, func() (int, error) { return e.Delete(c.measure, c.cond, c.from, c.to) }, c.e, c.pos, none)
		if c.e == api.ErrInto {
			continue
		}
		l, err := e.Read(c.measure, c.cond, c.from, c.to)
		fails(t, c, err, c.e, c.pos, none)
		if l != nil {
			t.Errorf("%v: %v beside an error", c, l)
		}
	}
	_, err := e.Read("hourly", "zone = 'z'", 0, 9)
	fails(t, "Read of a target", err, api.ErrColumn, 0, none)
	l, err := e.Read("hourly", "host != 'a'", 0, 1)
	well(t, "Read of a target", err)
	is(t, "Read of a target", fmt.Sprint(l), "[{{hourly [{host b}] m} {0 {0 4}}}]")
	for _, c := range []struct {
		cond     string
		from, to int64
		many     int
	}{{"host = 'a'", 11, 20, 0}, {"host = 'a'", 0, 10, 0}, {"host = 'c'", 0, 99, 0}, {"zone = ''", 10, 11, 2}, {"", math.MinInt64, math.MaxInt64, 1}, {"", 5, 5, 0}} {
		n, err := e.Delete("cpu", c.cond, c.from, c.to)
		well(t, c, err)
		is(t, "Delete", n, c.many)
	}
	tells(t, e, "hourly", "")
	if series, points := e.Count(); series != 0 || points != 0 {
		t.Errorf("%d series, %d samples", series, points)
	}
}

// P26.4, P26.12 (E14): what expires is frozen where it was told; a late query sees what is there alone.
func TestExpire(t *testing.T) {
	e := begin(t)
	leaves(t, e, "none", func() (int, error) { return e.Expire("nope", 5) }, api.ErrMeasure, none, none)
	leaves(t, e, "late", func() (int, error) { return e.Expire("cpu", api.MaxTime+1) }, api.ErrRange, none, none)
	leaves(t, e, "early", func() (int, error) { return e.Expire("cpu", -api.MaxTime-1) }, api.ErrRange, none, none)
	register(t, e, "SELECT sum(v) AS s INTO ten FROM cpu GROUP BY time(10ns)")
	register(t, e, "SELECT sum(s) AS s INTO twenty FROM ten GROUP BY time(20ns, 10ns)")
	write(t, e, "cpu v=1i -5", "cpu v=2i 5", "cpu v=4i 15", "cpu v=8i 25")
	leaves(t, e, "edge", func() (int, error) { return e.Expire("cpu", 15) }, api.ErrEdge, none, none)
	is(t, "Expire", expire(t, e, "cpu", 10), 2)
	ten, twenty := "ten s -10 1; ten s 0 2; ten s 10 4; ten s 20 8", "twenty s -10 3; twenty s 10 12"
	tells(t, e, "cpu", "cpu v 15 4; cpu v 25 8")
	tells(t, e, "ten", ten)
	tells(t, e, "twenty", twenty)
	// No more is kept than what may still change.
	is(t, "what is kept", len(e.queries.numbers[1].live.Cells()), 2)
	is(t, "Expire to where it is", expire(t, e, "cpu", 10), 0)
	leaves(t, e, "back", func() (int, error) { return e.Expire("cpu", 0) }, api.ErrRange, none, none)
	n, err := e.Delete("cpu", "", math.MinInt64, 20)
	well(t, "Delete", err)
	is(t, "Delete", n, 1)
	tells(t, e, "ten", "ten s -10 1; ten s 0 2; ten s 20 8")
	tells(t, e, "twenty", "twenty s -10 3; twenty s 10 8")
	register(t, e, "SELECT sum(v) AS s INTO late FROM cpu GROUP BY time(20ns)")
	tells(t, e, "late", "late s 20 8")
	write(t, e, "cpu v=16i 15")
	tells(t, e, "late", "late s 0 16; late s 20 8")
	// The row at 0 of the late one is not frozen: its source has not expired since.
	leaves(t, e, "edge", func() (int, error) { return e.Expire("cpu", 10) }, api.ErrEdge, none, none)
	write(t, e, "cpu v=1i 12")
	tells(t, e, "late", "late s 0 17; late s 20 8")
	is(t, "Expire", expire(t, e, "cpu", 20), 2)
	write(t, e, "cpu v=2i 26")
	tells(t, e, "late", "late s 0 17; late s 20 10")
	// A target expires by itself: what reads it keeps what it has.
	leaves(t, e, "edge", func() (int, error) { return e.Expire("ten", 0) }, api.ErrEdge, none, none)
	is(t, "Expire", expire(t, e, "ten", 10), 2)
	tells(t, e, "ten", "ten s 10 17; ten s 20 10")
	tells(t, e, "twenty", "twenty s -10 3; twenty s 10 27")
	register(t, e, "SELECT count(s) AS n INTO few FROM ten GROUP BY time(100ns)")
	tells(t, e, "few", "few n 0 2")
	for _, c := range []struct {
		measure string
		at      int64
	}{{"cpu", 20}, {"ten", 10}, {"twenty", -api.MaxTime}, {"net io", -api.MaxTime}} {
		at, err := e.Horizon(c.measure)
		well(t, c, err)
		is(t, c.measure, at, c.at)
	}
	_, err = e.Horizon("nope")
	fails(t, "Horizon", err, api.ErrMeasure, none, none)
	is(t, "Expire to the end", expire(t, e, "net io", api.MaxTime), 0)
	leaves(t, e, "old", func() (int, error) { return e.Write(`net\ io v=1i 5`) }, api.ErrOld, none, 0)
	write(t, e, fmt.Sprint(`net\ io v=1i `, api.MaxTime))
}

// A row whose window begins ahead of all times of points is never there, at no level.
func TestFirstWindow(t *testing.T) {
	e := begin(t)
	register(t, e, "SELECT sum(v) AS s INTO t FROM cpu GROUP BY time(7ns)")
	register(t, e, "SELECT sum(s) AS s INTO u FROM t GROUP BY time(1ns)")
	first := int64(-api.MaxTime)
	write(t, e, fmt.Sprint("cpu v=1i ", first), fmt.Sprint("cpu v=1i ", first+7), fmt.Sprint("cpu v=1i ", int64(api.MaxTime)))
	start, _ := e.Read("t", "", math.MinInt64, 0)
	if len(start) != 1 || start[0].Sample.Time <= first {
		t.Errorf("%v", start)
	}
	if l, _ := e.Read("u", "", math.MinInt64, math.MaxInt64); len(l) != 2 || l[0].Sample.Time != start[0].Sample.Time {
		t.Errorf("%v", l)
	}
	late := "SELECT sum(v) AS s INTO late FROM cpu GROUP BY time(7ns)"
	register(t, e, late)
	is(t, "late", strings.ReplaceAll(said(t, e, "late"), "late", "t"), said(t, e, "t"))
	rows, err := e.Select("SELECT sum(v) AS s FROM cpu GROUP BY time(7ns)")
	well(t, "Select", err)
	if len(rows) != 3 || rows[0].Cell.Start >= first {
		t.Errorf("%v", rows)
	}
	f, err := Load(e.Save())
	well(t, "Load", err)
	is(t, "Load", face(t, f), face(t, e))
}

// P26.5: Select.
func TestSelect(t *testing.T) {
	e := begin(t)
	write(t, e, "cpu,host=a v=4i 0", "cpu,host=a v=7i 30", "cpu,host=b v=9223372036854775807i 1", "cpu,host=b v=1i 2")
	register(t, e, "SELECT sum(v) AS s INTO t FROM cpu GROUP BY time(10ns), host")
	for _, c := range []struct {
		text string
		e    api.Errno
		pos  int
	}{
		{"SELECT", api.ErrSyntax, 6},
		{"SELECT max(v) INTO x FROM nope GROUP BY time(1h)", api.ErrMeasure, 26},
		{"SELECT max(v) INTO t FROM cpu GROUP BY time(1h)", api.ErrTarget, 19},
		{"SELECT max(v) INTO x FROM cpu GROUP BY time(1h) FILL(0)", api.ErrFill, 48},
		{"SELECT max(v) INTO x FROM cpu GROUP BY time(1h)", api.ErrTarget, 19},
		{"SELECT max(v) + 1 FROM cpu GROUP BY time(1h)", api.ErrPlain, 7},
	} {
		l, err := e.Select(c.text)
		fails(t, c.text, err, c.e, c.pos, none)
		if l != nil {
			t.Errorf("%v beside an error", l)
		}
	}
	for _, c := range [][2]string{
		{"SELECT max(v) FROM cpu WHERE host = 'a' GROUP BY time(10ns), host FILL(last)", "0 host=a max_v=4\n10 host=a max_v=4\n20 host=a max_v=4\n30 host=a max_v=7\n"},
		{"SELECT sum(v) AS s, 1 / (count(v) - 1) AS z FROM cpu GROUP BY time(10ns), host", "0 host=a s=4,z=void\n0 host=b s=over,z=1\n30 host=a s=7,z=void\n"},
		{"SELECT count(s) AS n FROM t GROUP BY time(10ns)", "0 - n=1\n30 - n=1\n"},
		{"SELECT count(w) AS n FROM cpu GROUP BY time(10ns) FILL(0)", ""},
	} {
		rows, err := e.Select(c[0])
		well(t, c[0], err)
		read, _ := parse.Query(c[0])
		q, _ := check.Query(e.Tables(), read)
		printed, err := cell.Print(q, rows)
		well(t, c[0], err)
		is(t, c[0], printed, c[1])
	}
}

// P26.5: an answer has so many rows and no more.
func TestRows(t *testing.T) {
	e := fresh(t, 10, api.MaxPoints)
	var l []api.Point
	for i := range api.MaxRows + 1 {
		l = append(l, point("", int64(i), field("v", 1)))
	}
	for ; len(l) > api.MaxBatch; l = l[api.MaxBatch:] {
		_, err := e.Points(l[:api.MaxBatch])
		well(t, "Points", err)
	}
	_, err := e.Points(l[:len(l)-1])
	well(t, "Points", err)
	const each, filled = "SELECT max(v) AS x FROM cpu GROUP BY time(1ns)", "SELECT max(v) AS x FROM cpu GROUP BY time(1ns) FILL(last)"
	for _, text := range []string{each, filled} {
		rows, err := e.Select(text)
		well(t, text, err)
		is(t, text, len(rows), api.MaxRows)
	}
	_, err = e.Points(l[len(l)-1:])
	well(t, "Points", err)
	for _, text := range []string{each, filled} {
		rows, err := e.Select(text)
		fails(t, text, err, api.ErrLong, none, none)
		is(t, text, len(rows), 0)
	}
	_, err = e.Delete("cpu", "", 1, api.MaxRows)
	well(t, "Delete", err)
	_, err = e.Select(filled)
	fails(t, filled, err, api.ErrLong, none, none)
	rows, err := e.Select(each)
	well(t, each, err)
	is(t, each, len(rows), 2)
}

// P26.6
func TestAsked(t *testing.T) {
	e := begin(t)
	e.Plain(true)
	register(t, e, "select  MEAN(v), sum(v) as s into \"t\" from cpu where 'a' = host and TRUE group by time(60m)")
	e.Plain(false)
	register(t, e, "select  MEAN(v), sum(v) as s into u from cpu where 'a' = host and TRUE group by time(60m)")
	text, err := e.Text(1)
	well(t, "Text", err)
	is(t, "Text", text, "SELECT mean(v), sum(v) AS s INTO t FROM cpu WHERE 'a' = host AND TRUE GROUP BY time(1h)")
	told, err := e.Explain(1)
	well(t, "Explain", err)
	is(t, "Explain", told, strings.Join([]string{
		"from cpu", "into t", "window 1h 0s", "where 'a' = host AND TRUE", "acc 0 sum v", "acc 1 count v", "acc 2 sum v", "out mean_v ratio acc 0 acc 1", "out s acc 2",
		`from "cpu"`, `into "t"`, "window 3600000000000 0", `acc 2 "v"`, `acc 1 "v"`, `acc 2 "v"`, `alias "mean_v"`, `alias "s"`, `name "host"`, `text "a"`,
		"filter", "pushtag 0 0", "jumpfalse 4", "pop", "pushtrue", "accept", "output", "ratio 0 1", "emit 0", "loadacc 2", "emit 1", "done", "",
	}, "\n"))
	told, err = e.Explain(2)
	well(t, "Explain", err)
	is(t, "Explain", told, strings.Join([]string{
		"from cpu", "into u", "window 1h 0s", "where host = 'a'", "acc 0 sum v", "acc 1 count v", "out mean_v ratio acc 0 acc 1", "out s acc 0",
		`from "cpu"`, `into "u"`, "window 3600000000000 0", `acc 2 "v"`, `acc 1 "v"`, `alias "mean_v"`, `alias "s"`, `name "host"`, `text "a"`,
		"filter", "pushtag 0 0", "accept", "output", "ratio 0 1", "emit 0", "loadacc 0", "emit 1", "done", "",
	}, "\n"))
	for _, id := range []int{0, 3, -1} {
		text, err := e.Text(id)
		fails(t, id, err, api.ErrQuery, none, none)
		plan, err := e.Explain(id)
		fails(t, id, err, api.ErrQuery, none, none)
		is(t, "beside an error", text+plan, "")
	}
	register(t, e, "SELECT max(s) INTO v FROM t GROUP BY time(1h)")
	well(t, "Drop", e.Drop(2))
	is(t, "Queries", e.Queries(), []int{1, 3})
	is(t, "Tables", e.Tables(), append(tables(), api.Table{Measure: "t", Fields: []string{"mean_v", "s"}}, api.Table{Measure: "v", Fields: []string{"max_s"}}))
}

// P26.6, P26.11: how many instructions a call has run.
func TestSteps(t *testing.T) {
	e := begin(t)
	steps := func(what string, want int) {
		t.Helper()
		is(t, "Steps behind "+what, e.Steps(), want)
	}
	steps("nothing", 0)
	register(t, e, "SELECT sum(v) AS s INTO t FROM cpu GROUP BY time(10ns)") // 2 and 3
	steps("Register", 0)
	register(t, e, "SELECT max(s) AS s INTO u FROM t WHERE time >= 0 GROUP BY time(100ns)") // 2 and 3
	write(t, e, "cpu v=1i 1", "cpu v=1i 2", "cpu v=1i -1", "cpu w=1i -1")
	// Three deltas of cpu's v, of which two cells are told; two of t, of which one cell is told: the other one does not count.
	steps("Write", 3*2+2*3+2*2+3)
	register(t, e, "SELECT count(w) AS n INTO late FROM cpu GROUP BY time(10ns)")
	steps("Register", 2+3)
	e.Plain(true)
	_, err := e.Read("cpu", "", 0, 9)
	well(t, "Read", err)
	_, err = e.Select("SELECT max(v) FROM cpu GROUP BY time(1h)")
	well(t, "Select", err)
	e.Fork().Drop(3)
	steps("what changes nothing", 2+3)
	is(t, "Steps of a fork", e.Fork().Steps(), 2+3)
	_, err = e.Delete("cpu", "", -9, 2)
	well(t, "Delete", err)
	// Two deltas of v (a cell is told, the other one is empty) and two of t, one of w, whose cell is empty.
	steps("Delete", 2*2+3+2*2+3+2)
	for what, call := range map[string]func() error{
		"Register": func() error { _, err := e.Register(""); return err }, "Write": func() error { _, err := e.Write("x"); return err },
		"Points": func() error { _, err := e.Points(make([]api.Point, 1)); return err }, "Delete": func() error { _, err := e.Delete("t", "", 0, 1); return err },
		"Drop": func() error { return e.Drop(1) }, "Expire": func() error { _, err := e.Expire("nope", 1); return err },
	} {
		write(t, e, "cpu v=1i 2")
		write(t, e, "cpu v=2i 2")
		steps("Write", 2+3+2+3)
		if call() == nil {
			t.Errorf("%s has no error", what)
		}
		steps(what+" that is refused", 0)
	}
	write(t, e, "cpu v=3i 2")
	steps("Write", 2+3+2+3)
	write(t, e, "cpu v=3i 2")
	steps("Write of what is there", 0)
	write(t, e, "cpu v=2i 2")
	expire(t, e, "net io", 5)
	steps("Expire", 0)
	write(t, e, "cpu v=3i 2")
	well(t, "Drop", e.Drop(3))
	steps("Drop", 0)
	write(t, e, "cpu v=1i 2")
	n, err := e.Points([]api.Point{point("", 2, field("v", 4))})
	well(t, "Points", err)
	is(t, "Points", n, 1)
	steps("Points", 2+3+2+3)
	f, err := Load(e.Save())
	well(t, "Load", err)
	is(t, "Steps behind Load", f.Steps(), 0)
}

// P4, P3
func TestMemory(t *testing.T) {
	given := copyTables(tables())
	e, err := New(given, 100, 1000)
	well(t, "New", err)
	is(t, "the schema", spareTables(given), spareTables(copyTables(tables())))
	spoilTables(given)
	d, m := draw(), modelOf(tables(), 100, 1000)
	for _, text := range []string{mean, "SELECT max(m) AS x, min(m) AS y INTO daily FROM hourly GROUP BY time(1h), host"} {
		register(t, e, text)
		_, err := m.register(text)
		well(t, text, err)
	}
	for range 50 {
		l := sample.Some(1+d(5), func() api.Point { return somePoint(d, m, true) })
		points := copyPoints(l)
		n, err := e.Points(points)
		want, no := m.take(l)
		like(t, l, err, no)
		is(t, "Points", n, want)
		is(t, "the points", sparePoints(points), sparePoints(copyPoints(l)))
		spoilPoints(points)
		spoilTables(e.Tables())
		for _, table := range m.tables() {
			l, _ := e.Read(table.Measure, "", math.MinInt64, math.MaxInt64)
			spoilWrites(l)
		}
		rows, err := e.Select("SELECT max(v) FROM cpu GROUP BY time(1h), host, zone")
		well(t, "Select", err)
		spoilRows(rows)
		sample.Fill(e.Queries(), 77)
		saved := e.Save()
		f, err := Load(saved)
		well(t, "Load", err)
		sample.Fill(saved, 77)
		sample.Fill(e.Save(), 77)
		m.agrees(t, e)
		f.steps = e.steps
		m.agrees(t, f)
	}
}

// P1
func TestNil(t *testing.T) {
	var e *Engine
	e.Plain(true)
	numbers := map[string]func() (int, error){
		"Register": func() (int, error) { return e.Register(mean) }, "Drop": func() (int, error) { return 0, e.Drop(1) },
		"Write": func() (int, error) { return e.Write("x") }, "Points": func() (int, error) { return e.Points(make([]api.Point, api.MaxBatch+1)) },
		"Delete": func() (int, error) { return e.Delete("nope", "x", 5, 1) }, "Expire": func() (int, error) { return e.Expire("nope", 1) },
		"Read":    func() (int, error) { l, err := e.Read("nope", "x", 5, 1); return len(l), err },
		"Select":  func() (int, error) { l, err := e.Select("x"); return len(l), err },
		"Explain": func() (int, error) { s, err := e.Explain(1); return len(s), err },
		"Text":    func() (int, error) { s, err := e.Text(1); return len(s), err },
		"Horizon": func() (int, error) { t, err := e.Horizon("nope"); return int(t), err },
	}
	for what, call := range numbers {
		n, err := call()
		fails(t, what, err, api.ErrNil, none, none)
		is(t, what, n, 0)
	}
	series, points := e.Count()
	if e.Fork() != nil || e.Queries() != nil || e.Tables() != nil || series != 0 || points != 0 || e.Steps() != 0 || e.Save() != nil {
		t.Error("a nil engine tells something")
	}
}

// What may be is read whatever the text: names and texts of all kinds come through lines, queries and conditions.
func TestNames(t *testing.T) {
	e, err := New([]api.Table{{Measure: "a b", Tags: []string{"select", "é"}, Fields: []string{"x y", "max"}}}, 10, 10)
	well(t, "New", err)
	l, err := line.One(`a\ b,select=it's,é=\,\= x\ y=5i,max=6i 3`)
	well(t, "a line", err)
	_, err = e.Points([]api.Point{l})
	well(t, "Points", err)
	register(t, e, `SELECT max("x y") - min(max) AS "a,b" INTO "from" FROM "a b" WHERE "select" = 'it\'s' GROUP BY time(2ns), "é"`)
	tells(t, e, "from", `from,é=\,\= a\,b 2 -1`)
	read, err := e.Read("from", `"é" = ',='`, 0, 9)
	well(t, "Read", err)
	is(t, "Read", len(read), 1)
	f, err := Load(e.Save())
	well(t, "Load", err)
	is(t, "Load", face(t, f), face(t, e))
}
