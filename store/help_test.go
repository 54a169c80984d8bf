package store

import (
	"fmt"
	"math"
	"math/rand"
	"testing"

	"weir/api"
	"weir/expect"
)

// fails holds an error against a number and the number of a write or delta; it must tell no place.
func fails(t *testing.T, what any, err error, e api.Errno, index int) {
	t.Helper()
	if wrong := expect.Wrong(err, e, expect.None, index); wrong != "" {
		t.Errorf("%.300s: %v: %s", fmt.Sprint(what), err, wrong)
	}
}

// draw is a source with a fixed seed, so that each run draws the same.
func draw() *rand.Rand { return rand.New(rand.NewSource(1970)) }

// pick draws one of some things.
func pick[T any](chance *rand.Rand, l []T) T { return l[chance.Intn(len(l))] }

// is holds what was told against what must be; an empty list is a nil one.
func is(t *testing.T, what, got, want any) {
	t.Helper()
	if fmt.Sprintf("%+v", got) != fmt.Sprintf("%+v", want) {
		t.Fatalf("%.300s:\n%.600s\nand not\n%.600s", fmt.Sprint(what), fmt.Sprintf("%+v", got), fmt.Sprintf("%+v", want))
	}
}

// of is a series: its measure, its field, and keys and values of its tags.
func of(measure, field string, on ...string) api.Series {
	s := api.Series{Measure: measure, Field: field}
	for i := 0; i < len(on); i += 2 {
		s.Tags = append(s.Tags, api.Tag{Key: on[i], Value: on[i+1]})
	}
	return s
}

func number(n int64) api.Value { return api.Value{Kind: api.Int, N: n} }

// put is the write of a number.
func put(s api.Series, t, n int64) api.Write {
	return api.Write{Series: s, Sample: api.Sample{Time: t, Value: number(n)}}
}

// became is a delta: a value of nil stands for none.
func became(s api.Series, t int64, old, now *api.Value) api.Delta {
	d := api.Delta{Series: s, Time: t}
	if old != nil {
		d.Had, d.Old = true, *old
	}
	if now != nil {
		d.Has, d.New = true, *now
	}
	return d
}

// some is a number that a delta tells of.
func some(n int64) *api.Value {
	v := number(n)
	return &v
}

// fresh is an empty store with that room.
func fresh(t *testing.T, series, points int) *Store {
	t.Helper()
	s, err := New(series, points)
	if s == nil || err != nil {
		t.Fatalf("New(%d, %d): %v", series, points, err)
	}
	return s
}

// filled has all of these writes.
func filled(t *testing.T, l ...api.Write) *Store {
	t.Helper()
	s := fresh(t, api.MaxSeries, api.MaxPoints)
	if _, err := s.Write(l); err != nil {
		t.Fatal(err)
	}
	return s
}

// What is drawn: series that stand close to one another, times at the ends of all, each kind of value.
var (
	someSeries = []api.Series{
		of("cpu", "v"), of("cpu", "w"), of("cpu", "v", "host", "a"), of("cpu", "v", "host", "a", "zone", "z"), of("cpu", "v", "host", "b"), of("cpu", "w", "host", "b"),
		of("cpu ", "v", "host", "a"), of("c", "v"), of("mem", "v", "zone", "a,b ="), of("mem", "host", "host", "host"),
	}
	wrongSeries = []api.Series{
		of("", "v"), of("cpu", ""), of("cpu", "time"), of("cpu", "v", "b", "1", "a", "1"), of("cpu", "v", "a", ""), of("cpu", "v", "time", "x"), of("\xff", "v"), {},
	}
	someTimes   = []int64{math.MinInt64, math.MinInt64 + 1, -api.MaxTime, -1, 0, 1, 2, 10, api.MaxTime, math.MaxInt64 - 1, math.MaxInt64}
	someValues  = []api.Value{number(0), number(1), number(-1), number(math.MaxInt64), number(math.MinInt64), {Kind: api.Over}, {Kind: api.Void}}
	wrongValues = []api.Value{{Kind: api.Over, N: 1}, {Kind: api.Void, N: -1}, {Kind: 3}, {Kind: 3, N: 5}, {Kind: 255}}
)

// cond is a condition, and of which tags it holds.
type cond struct {
	nodes []api.Node
	holds func(host, zone string) bool
}

func op(o api.Op, kids int) api.Node { return api.Node{Op: o, Kids: kids} }

func tag(name string) api.Node { return api.Node{Op: api.OpTag, S: name} }

func text(s string) api.Node { return api.Node{Op: api.OpText, S: s} }

// conds are conditions of tags.
func conds() []cond {
	return []cond{
		{nil, func(h, z string) bool { return true }},
		{[]api.Node{}, func(h, z string) bool { return true }},
		{[]api.Node{op(api.OpTrue, 0)}, func(h, z string) bool { return true }},
		{[]api.Node{op(api.OpFalse, 0)}, func(h, z string) bool { return false }},
		{[]api.Node{op(api.OpEq, 2), tag("host"), text("a")}, func(h, z string) bool { return h == "a" }},
		{[]api.Node{op(api.OpNe, 2), tag("host"), text("a")}, func(h, z string) bool { return h != "a" }},
		{[]api.Node{op(api.OpNot, 1), op(api.OpEq, 2), tag("zone"), text("")}, func(h, z string) bool { return z != "" }},
		{[]api.Node{op(api.OpAnd, 2), op(api.OpEq, 2), tag("host"), text("a"), op(api.OpEq, 2), tag("zone"), text("z")}, func(h, z string) bool { return h == "a" && z == "z" }},
		{[]api.Node{op(api.OpOr, 2), op(api.OpEq, 2), tag("host"), text("b"), op(api.OpEq, 2), tag("zone"), text("a,b =")}, func(h, z string) bool { return h == "b" || z == "a,b =" }},
		{[]api.Node{op(api.OpIn, 3), tag("host"), text(""), text("host")}, func(h, z string) bool { return h == "" || h == "host" }},
	}
}

// noConds are lists of nodes that are no condition of tags.
func noConds() [][]api.Node {
	return [][]api.Node{
		{{}}, {op(api.OpTrue, 1)}, {op(api.OpTrue, 0), op(api.OpTrue, 0)}, {op(api.OpNot, 1)}, {op(api.OpAnd, 1), op(api.OpTrue, 0)}, {tag("host")},
		{op(api.OpGt, 2), op(api.OpClock, 0), {Op: api.OpTime, N: 5}}, {op(api.OpEq, 2), op(api.OpClock, 0), {Op: api.OpTime, N: 5}}, {op(api.OpEq, 2), tag("time"), text("a")}, {{Op: api.OpInt, N: 1}}, {op(99, 0)},
	}
}
