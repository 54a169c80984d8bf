package engine

import (
	"fmt"
	"math"
	"math/rand"
	"strings"
	"testing"

	"weir/api"
	"weir/expect"
	"weir/fault"
	"weir/key"
	"weir/sample"
)

const none = expect.None

// fails holds an error against a number, a place and an index.
func fails(t *testing.T, what any, err error, e api.Errno, pos, index int) {
	t.Helper()
	if wrong := expect.Wrong(err, e, pos, index); wrong != "" {
		t.Fatalf("%.1500s: %v: %s", fmt.Sprintf("%+v", what), err, wrong)
	}
}

// well holds that there is no error.
func well(t *testing.T, what any, err error) {
	t.Helper()
	fails(t, what, err, 0, none, none)
}

// like holds an error against another one: it must have the same number, place and index.
func like(t *testing.T, what any, err, want error) {
	t.Helper()
	pos, placed := fault.Place(want)
	if !placed {
		pos = none
	}
	index, counted := fault.Index(want)
	if !counted {
		index = none
	}
	fails(t, what, err, fault.Code(want), pos, index)
}

// is holds what was told against what must be; an empty list is a nil one.
func is(t *testing.T, what string, got, want any) {
	t.Helper()
	if fmt.Sprintf("%+v", got) != fmt.Sprintf("%+v", want) {
		t.Fatalf("%s:\n%.1500s\nand not\n%.1500s", what, fmt.Sprintf("%+v", got), fmt.Sprintf("%+v", want))
	}
}

// draw draws from a source with a fixed seed, so that each run draws the same.
func draw() sample.Draw { return rand.New(rand.NewSource(1970)).Intn }

// hour is how many nanoseconds an hour has.
const hour = 3600000000000

// mean is the query M of the document's examples.
const mean = "SELECT mean(v) AS m INTO hourly FROM cpu GROUP BY time(1h), host"

// tables is the schema of the document's examples, and a table without tags.
func tables() []api.Table {
	return []api.Table{
		{Measure: "cpu", Tags: []string{"host", "zone"}, Fields: []string{"v", "w"}},
		{Measure: "net io", Fields: []string{"v"}},
	}
}

// fresh is an engine with that room.
func fresh(t *testing.T, series, points int) *Engine {
	t.Helper()
	e, err := New(tables(), series, points)
	well(t, "New", err)
	return e
}

// begin is an engine with room.
func begin(t *testing.T) *Engine {
	t.Helper()
	return fresh(t, 100, 1000)
}

// register registers a query that may be.
func register(t *testing.T, e *Engine, text string) int {
	t.Helper()
	n, err := e.Register(text)
	well(t, text, err)
	return n
}

// write writes lines that may be.
func write(t *testing.T, e *Engine, lines ...string) int {
	t.Helper()
	n, err := e.Write(strings.Join(lines, "\n"))
	well(t, lines, err)
	return n
}

// expire lets a measure expire.
func expire(t *testing.T, e *Engine, measure string, at int64) int {
	t.Helper()
	n, err := e.Expire(measure, at)
	well(t, measure, err)
	return n
}

// said are all samples of a measure as a text.
func said(t *testing.T, e *Engine, measure string) string {
	t.Helper()
	l, err := e.Read(measure, "", math.MinInt64, math.MaxInt64)
	well(t, measure, err)
	var out []string
	for _, w := range l {
		value := fmt.Sprint(w.Sample.Value.N)
		if w.Sample.Value.Kind != api.Int {
			value = [...]string{"", "over", "void"}[w.Sample.Value.Kind]
		}
		out = append(out, fmt.Sprint(key.Print(w.Series), " ", w.Sample.Time, " ", value))
	}
	return strings.Join(out, "; ")
}

// tells holds what a measure has against a text.
func tells(t *testing.T, e *Engine, measure, want string) {
	t.Helper()
	if got := said(t, e, measure); got != want {
		t.Fatalf("%s: %s\nand not\n%s", measure, got, want)
	}
}

// face is all that an engine tells, but for how many steps were done last.
func face(t *testing.T, e *Engine) string {
	t.Helper()
	series, points := e.Count()
	out := []string{fmt.Sprint(series, points, e.Queries(), e.Tables()), string(e.Save())}
	for _, id := range e.Queries() {
		text, err := e.Text(id)
		well(t, id, err)
		plan, err := e.Explain(id)
		well(t, id, err)
		out = append(out, text, plan)
	}
	for _, table := range e.Tables() {
		at, err := e.Horizon(table.Measure)
		well(t, table, err)
		out = append(out, fmt.Sprint(at), said(t, e, table.Measure))
	}
	return strings.Join(out, "\n")
}

// leaves makes a call that must have an error: nothing is another one behind it.
func leaves(t *testing.T, e *Engine, what any, call func() (int, error), want api.Errno, pos, index int) {
	t.Helper()
	ahead := face(t, e)
	n, err := call()
	fails(t, what, err, want, pos, index)
	if n != 0 || e.Steps() != 0 {
		t.Errorf("%v: %d, %d steps beside an error", what, n, e.Steps())
	}
	is(t, fmt.Sprintf("what %v leaves", what), face(t, e), ahead)
}

// point is a point of cpu with a host.
func point(host string, at int64, fields ...api.Field) api.Point {
	return api.Point{Measure: "cpu", Tags: key.Join([]string{"host"}, []string{host}), Fields: fields, Time: at}
}

func field(name string, n int64) api.Field { return api.Field{Key: name, N: n} }

// copyPoints are points in memory of their own, with something behind the end of each list.
func copyPoints(l []api.Point) []api.Point {
	l = sample.Room(l, api.Point{Time: 99})
	for i := range l {
		l[i].Tags, l[i].Fields = sample.Room(l[i].Tags, api.Tag{Key: "spare"}), sample.Room(l[i].Fields, api.Field{Key: "spare"})
	}
	return l
}

// sparePoints is all that copyPoints has made.
func sparePoints(l []api.Point) []any {
	all := []any{sample.Spare(l)}
	for _, p := range l {
		all = append(all, sample.Spare(p.Tags), sample.Spare(p.Fields))
	}
	return all
}

// spoilPoints changes all that points have.
func spoilPoints(l []api.Point) {
	for _, p := range l {
		sample.Fill(p.Tags, api.Tag{Key: "spoilt"})
		sample.Fill(p.Fields, api.Field{Key: "spoilt"})
	}
	sample.Fill(l, api.Point{Time: 77})
}

// copyTables are tables in memory of their own, with something behind the end of each list.
func copyTables(l []api.Table) []api.Table {
	l = sample.Room(l, api.Table{Measure: "spare"})
	for i := range l {
		l[i].Tags, l[i].Fields = sample.Room(l[i].Tags, "spare"), sample.Room(l[i].Fields, "spare")
	}
	return l
}

// spareTables is all that copyTables has made.
func spareTables(l []api.Table) []any {
	all := []any{sample.Spare(l)}
	for _, t := range l {
		all = append(all, sample.Spare(t.Tags), sample.Spare(t.Fields))
	}
	return all
}

// spoilTables changes all that tables have.
func spoilTables(l []api.Table) {
	for _, t := range l {
		sample.Fill(t.Tags, "spoilt")
		sample.Fill(t.Fields, "spoilt")
	}
	sample.Fill(l, api.Table{Measure: "spoilt"})
}

// spoilWrites changes all that samples have.
func spoilWrites(l []api.Write) {
	for _, w := range l {
		sample.Fill(w.Series.Tags, api.Tag{Key: "spoilt"})
	}
	sample.Fill(l, api.Write{})
}

// spoilRows changes all that rows have.
func spoilRows(l []api.Row) {
	for _, r := range l {
		sample.Fill(r.Cell.Group, "spoilt")
		sample.Fill(r.Items, api.Told{})
	}
	sample.Fill(l, api.Row{})
}
