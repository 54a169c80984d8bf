package batch

import (
	"cmp"
	"fmt"
	"math"
	"math/rand"
	"slices"
	"testing"

	"weir/api"
	"weir/expect"
)

// fails holds an error against a number and an index; it must tell no place.
func fails(t *testing.T, what any, err error, e api.Errno, index int) {
	t.Helper()
	if wrong := expect.Wrong(err, e, expect.None, index); wrong != "" {
		t.Errorf("%.200s: %v: %s", fmt.Sprint(what), err, wrong)
	}
}

// draw is a source with a fixed seed, so that each run draws the same.
func draw() *rand.Rand { return rand.New(rand.NewSource(1970)) }

// tags are made of keys and values, one behind the other.
func tags(l ...string) []api.Tag {
	var out []api.Tag
	for i := 0; i < len(l); i += 2 {
		out = append(out, api.Tag{Key: l[i], Value: l[i+1]})
	}
	return out
}

// fields are of these keys, with the numbers 1, 2 and so on.
func fields(keys ...string) []api.Field {
	var out []api.Field
	for i, k := range keys {
		out = append(out, api.Field{Key: k, N: int64(i + 1)})
	}
	return out
}

func write(measure string, l []api.Tag, field string, time int64, v api.Value) api.Write {
	return api.Write{Series: api.Series{Measure: measure, Tags: l, Field: field}, Sample: api.Sample{Time: time, Value: v}}
}

func number(n int64) api.Value { return api.Value{Kind: api.Int, N: n} }

// order is the document's order of writes, told anew.
func order(a, b api.Write) int {
	if a.Series.Measure != b.Series.Measure {
		return cmp.Compare(a.Series.Measure, b.Series.Measure)
	}
	for i := range min(len(a.Series.Tags), len(b.Series.Tags)) {
		x, y := a.Series.Tags[i], b.Series.Tags[i]
		if x.Key != y.Key {
			return cmp.Compare(x.Key, y.Key)
		}
		if x.Value != y.Value {
			return cmp.Compare(x.Value, y.Value)
		}
	}
	if len(a.Series.Tags) != len(b.Series.Tags) {
		return cmp.Compare(len(a.Series.Tags), len(b.Series.Tags))
	}
	if a.Series.Field != b.Series.Field {
		return cmp.Compare(a.Series.Field, b.Series.Field)
	}
	return cmp.Compare(a.Sample.Time, b.Sample.Time)
}

// ordered is Order, told by laying each write into its place.
func ordered(l []api.Write) []api.Write {
	var out []api.Write
	for _, w := range l {
		at, there := slices.BinarySearchFunc(out, w, order)
		if there {
			out[at] = w
		} else {
			out = slices.Insert(out, at, w)
		}
	}
	return out
}

func sameWrite(a, b api.Write) bool { return order(a, b) == 0 && a.Sample == b.Sample }

func sameWrites(a, b []api.Write) bool { return slices.EqualFunc(a, b, sameWrite) }

func samePoint(a, b api.Point) bool {
	return a.Measure == b.Measure && slices.Equal(a.Tags, b.Tags) && slices.Equal(a.Fields, b.Fields) && a.Time == b.Time
}

// pick draws one of some things.
func pick[T any](chance *rand.Rand, l ...T) T { return l[chance.Intn(len(l))] }

// someWrites draws writes of few series and times, right and not, whose values are all unlike.
func someWrites(chance *rand.Rand, n int) []api.Write {
	var l []api.Write
	for i := range n {
		var on []api.Tag
		for range chance.Intn(3) {
			on = append(on, api.Tag{Key: pick(chance, "a", "b", "time", ""), Value: pick(chance, "x", "\xff", "")})
		}
		time := pick[int64](chance, 0, 1, -1, math.MaxInt64, math.MinInt64)
		kind := pick(chance, api.Int, api.Int, api.Int, api.Over, api.Void, 7)
		l = append(l, write(pick(chance, "m", "mm", ""), on, pick(chance, "v", "w", ""), time, api.Value{Kind: kind, N: int64(i)}))
	}
	return l
}

// somePoints draws points that are right, of few series and times, whose numbers are all unlike.
func somePoints(chance *rand.Rand, n int) []api.Point {
	var l []api.Point
	for i := range n {
		p := api.Point{Measure: pick(chance, "m", "mm", "time"), Time: pick[int64](chance, 0, 1, -1, api.MaxTime, -api.MaxTime)}
		for _, k := range chance.Perm(3)[chance.Intn(4):] {
			p.Tags = append(p.Tags, api.Tag{Key: []string{"a", "b", "v"}[k], Value: pick(chance, "x", "y")})
		}
		for _, k := range chance.Perm(3)[chance.Intn(3):] {
			p.Fields = append(p.Fields, api.Field{Key: []string{"v", "w", "ww"}[k], N: int64(3*i + k)})
		}
		l = append(l, p)
	}
	return l
}

// roomy is a list with room behind its end, and a look at all of it.
func roomy[T any](l []T, room T) (list, all []T) {
	all = append(slices.Clone(l), room, room, room)
	return all[:len(l)], all
}
