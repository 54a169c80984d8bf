package journal

import (
	"bytes"
	"fmt"
	"math"
	"math/rand"
	"testing"

	"weir/api"
	"weir/engine"
	"weir/expect"
	"weir/fault"
	"weir/key"
	"weir/sample"
	"weir/wire"
)

const none = expect.None

// fails holds an error against a number, a place and an index.
func fails(t *testing.T, what any, err error, e api.Errno, pos, index int) {
	t.Helper()
	if wrong := expect.Wrong(err, e, pos, index); wrong != "" {
		t.Fatalf("%.1500s: %v: %s", fmt.Sprintf("%+v", what), err, wrong)
	}
}

// refused holds an error without a place and an index.
func refused(t *testing.T, what any, err error, e api.Errno) {
	t.Helper()
	fails(t, what, err, e, none, none)
}

// well holds that there is no error.
func well(t *testing.T, what any, err error) {
	t.Helper()
	refused(t, what, err, 0)
}

// like holds an error against another one: it must have the same number, place and index.
func like(t *testing.T, what any, err, want error) {
	t.Helper()
	pos, placed := fault.Place(want)
	if !placed {
		pos = none
	}
	index, counted := fault.Index(want)
	if !counted {
		index = none
	}
	fails(t, what, err, fault.Code(want), pos, index)
}

// is holds what was told against what must be; an empty list is a nil one.
func is(t *testing.T, what any, got, want any) {
	t.Helper()
	a, isBytes := got.([]byte)
	b, areBytes := want.([]byte)
	if isBytes && areBytes && bytes.Equal(a, b) {
		return
	}
	if fmt.Sprintf("%+v", got) != fmt.Sprintf("%+v", want) {
		t.Fatalf("%v:\n%.1500s\nand not\n%.1500s", what, fmt.Sprintf("%+v", got), fmt.Sprintf("%+v", want))
	}
}

// draw draws from a source with a fixed seed, so that each run draws the same.
func draw() sample.Draw { return rand.New(rand.NewSource(1970)).Intn }

// tables is the schema of the document's examples.
func tables() []api.Table {
	return []api.Table{{Measure: "cpu", Tags: []string{"host", "zone"}, Fields: []string{"v", "w"}}}
}

// mean is the query M of the document's examples.
const mean = "SELECT mean(v) AS m INTO hourly FROM cpu GROUP BY time(1h), host"

// The room of the engines of most tests.
const (
	series = 40
	points = 200
)

// disk is an empty one.
func disk(t *testing.T, capacity int) *Disk {
	t.Helper()
	d, err := NewDisk(capacity)
	well(t, capacity, err)
	return d
}

// loaded is a disk with files that are durable.
func loaded(t *testing.T, capacity int, l ...api.Image) *Disk {
	t.Helper()
	d, err := Load(capacity, l)
	well(t, l, err)
	return d
}

// durable is a file that is synced.
func durable(name string, b []byte) api.Image { return api.Image{Name: name, Durable: b, Now: b} }

// open opens a store that can be opened.
func open(t *testing.T, d *Disk) *Store {
	t.Helper()
	s, err := Open(d, tables(), series, points)
	well(t, "Open", err)
	return s
}

// fresh is an engine as open makes one.
func fresh(t *testing.T) *engine.Engine {
	t.Helper()
	e, err := engine.New(tables(), series, points)
	well(t, "New", err)
	return e
}

// seal is a frame.
func seal(t *testing.T, kind byte, number uint64, b []byte) []byte {
	t.Helper()
	frame, err := wire.Seal(kind, number, b)
	well(t, number, err)
	return frame
}

// snapOf is the file that an engine must be.
func snapOf(t *testing.T, generation uint64, e *engine.Engine) []byte {
	t.Helper()
	return seal(t, 3, generation, e.Save())
}

// logOf is the file that ops' bytes must be.
func logOf(t *testing.T, generation uint64, ops ...[]byte) []byte {
	t.Helper()
	b := seal(t, 1, generation, nil)
	for i, op := range ops {
		b = append(b, seal(t, 2, generation<<32+uint64(i), op)...)
	}
	return b
}

// bytesOf is what a Writer was told.
func bytesOf(tell func(w *wire.Writer)) []byte {
	var w wire.Writer
	tell(&w)
	return w.Bytes()
}

// opOf are the bytes of an op that is a number and texts alone.
func opOf(kind byte, texts ...string) []byte {
	return bytesOf(func(w *wire.Writer) {
		w.Byte(kind)
		for _, s := range texts {
			w.Text(s)
		}
	})
}

// with are bytes with numbers behind them.
func with(b []byte, numbers ...int64) []byte {
	return append(b, bytesOf(func(w *wire.Writer) {
		for _, n := range numbers {
			w.Int(n)
		}
	})...)
}

// one are the bytes of the op that brings the point v=n at a time.
func one(n, at int64) []byte {
	return bytesOf(func(w *wire.Writer) {
		w.Byte(3)
		w.Uint(1)
		w.Text("cpu")
		w.Uint(0)
		w.Uint(1)
		w.Text("v")
		w.Int(n)
		w.Int(at)
	})
}

// point is a point of cpu with a host.
func point(host string, at int64, fields ...api.Field) api.Point {
	return api.Point{Measure: "cpu", Tags: key.Join([]string{"host"}, []string{host}), Fields: fields, Time: at}
}

func field(name string, n int64) api.Field { return api.Field{Key: name, N: n} }

// state is all that a store and its disk tell.
func state(s *Store, d *Disk) string {
	e := s.Engine()
	return fmt.Sprint(e.Save(), e.Steps(), s.Generation(), s.Records(), s.Lost(), s.ReadOnly(), d.Images())
}

// teller is what a store and an engine have in common.
type teller interface {
	Register(text string) (int, error)
	Drop(id int) error
	Points(l []api.Point) (int, error)
	Delete(measure, cond string, from, to int64) (int, error)
	Expire(measure string, t int64) (int, error)
}

// deed is a call of either.
type deed struct {
	name string
	do   func(e teller) (int, error)
}

// someDeed draws a call; some are refused by the engine.
func someDeed(d sample.Draw) deed {
	measure := sample.One(d, "cpu", "cpu", "cpu", "cpu", "ten", "twenty", "nope")
	from, to := int64(d(120)-40), int64(d(120)-40)
	switch d(12) {
	case 0, 1:
		text := sample.One(d,
			"SELECT sum(v) AS s, max(w) AS x INTO ten FROM cpu GROUP BY time(10ns), host",
			"select count(s) as n  into twenty from ten group by time(20ns)",
			"SELECT spread(v) INTO ten FROM cpu WHERE zone != 'a' GROUP BY time(20ns, 10ns), zone",
			"SELECT max(v INTO x",
			"SELECT last(w) AS l INTO it FROM cpu GROUP BY time(10ns)")
		return deed{"Register", func(e teller) (int, error) { return e.Register(text) }}
	case 2:
		id := d(6)
		return deed{"Drop", func(e teller) (int, error) { return 0, e.Drop(id) }}
	case 3, 4:
		cond := sample.One(d, "", "", "host = 'a'", "zone IN ('b', '')", "time > 5", "x")
		return deed{"Delete", func(e teller) (int, error) { return e.Delete(measure, cond, from, to) }}
	case 5:
		at := sample.One(d, -40, -20, -10, -7, 0, from)
		return deed{"Expire", func(e teller) (int, error) { return e.Expire(measure, at) }}
	}
	l := sample.Some(d(4), func() api.Point {
		p := api.Point{Measure: "cpu", Time: sample.One(d, int64(d(80)), int64(d(80)-40), api.MaxTime), Fields: []api.Field{field("w", int64(d(9)))}}
		if d(2) > 0 {
			p.Tags = append(p.Tags, api.Tag{Key: "zone", Value: sample.One(d, "a", "b c", "=")})
		}
		if d(2) > 0 {
			p.Tags = append(p.Tags, api.Tag{Key: "host", Value: sample.One(d, "a", "b", "é")})
		}
		if d(2) > 0 {
			p.Fields = append(p.Fields, field("v", sample.One[int64](d, 1, -7, math.MaxInt64, math.MinInt64)))
		}
		if d(20) == 0 {
			p.Measure = "ten"
		}
		return p
	})
	return deed{"Points", func(e teller) (int, error) { return e.Points(l) }}
}
