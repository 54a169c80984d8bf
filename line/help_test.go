package line

import (
	"fmt"
	"math/rand"
	"slices"
	"testing"

	"weir/api"
	"weir/expect"
)

// fails holds an error against a number and a place.
func fails(t *testing.T, what any, err error, e api.Errno, pos int) {
	t.Helper()
	numbered(t, what, err, e, pos, expect.None)
}

// numbered holds an error against a number, a place and an index.
func numbered(t *testing.T, what any, err error, e api.Errno, pos, index int) {
	t.Helper()
	if wrong := expect.Wrong(err, e, pos, index); wrong != "" {
		t.Errorf("%.200q: %v: %s", fmt.Sprint(what), err, wrong)
	}
}

// draw is a source with a fixed seed, so that each run draws the same.
func draw() *rand.Rand { return rand.New(rand.NewSource(1970)) }

// point is made of a measure, keys and values, a field, its number, a time.
func point(measure string, tags []string, field string, n, time int64) api.Point {
	p := api.Point{Measure: measure, Fields: []api.Field{{Key: field, N: n}}, Time: time}
	for i := 0; i < len(tags); i += 2 {
		p.Tags = append(p.Tags, api.Tag{Key: tags[i], Value: tags[i+1]})
	}
	return p
}

func same(a, b api.Point) bool {
	return a.Measure == b.Measure && slices.Equal(a.Tags, b.Tags) && slices.Equal(a.Fields, b.Fields) && a.Time == b.Time
}

// somePoint draws a plain point, whose names and texts may be right or not.
func somePoint(chance *rand.Rand) api.Point {
	word := func() string {
		pieces := []string{"a", "b", "#", "time", ",", " ", "=", `\`, "é", "\xff", "\x00", "\r", "i", "-1", "0"}
		s := ""
		for range 1 + chance.Intn(5) {
			s += pieces[chance.Intn(len(pieces))]
		}
		return s
	}
	number := func() int64 { return int64(chance.Uint64()) >> chance.Intn(64) }
	p := api.Point{Measure: "m" + word(), Time: number()}
	for range chance.Intn(5) {
		p.Tags = append(p.Tags, api.Tag{Key: word(), Value: word()})
	}
	for range 1 + chance.Intn(4) {
		p.Fields = append(p.Fields, api.Field{Key: word(), N: number()})
	}
	return p
}
