package key

import (
	"math/rand"
	"slices"
	"strings"
	"testing"

	"weir/api"
	"weir/expect"
)

// fails holds an error against a number and a place.
func fails(t *testing.T, what any, err error, e api.Errno, pos int) {
	t.Helper()
	if wrong := expect.Wrong(err, e, pos, expect.None); wrong != "" {
		t.Errorf("%q: %v: %s", what, err, wrong)
	}
}

// draw is a source with a fixed seed, so that each run draws the same.
func draw() *rand.Rand { return rand.New(rand.NewSource(1970)) }

// tags are made of keys and values, one behind the other.
func tags(l ...string) []api.Tag {
	var out []api.Tag
	for i := 0; i < len(l); i += 2 {
		out = append(out, api.Tag{Key: l[i], Value: l[i+1]})
	}
	return out
}

// series is made of a measure, keys and values, a field.
func series(l ...string) api.Series {
	last := len(l) - 1
	return api.Series{Measure: l[0], Tags: tags(l[1:last]...), Field: l[last]}
}

func sameSeries(a, b api.Series) bool {
	return a.Measure == b.Measure && slices.Equal(a.Tags, b.Tags) && a.Field == b.Field
}

// someWord draws a text of one to most pieces.
func someWord(chance *rand.Rand, most int) string {
	pieces := []string{"a", "b", "z", "Z", "0", "#", "time", ",", " ", "=", `\`, "é", "\u2028", "😀", "\""}
	var out strings.Builder
	for range 1 + chance.Intn(most) {
		out.WriteString(pieces[chance.Intn(len(pieces))])
	}
	return out.String()
}

// someSeries draws a series that is right.
func someSeries(chance *rand.Rand) api.Series {
	column := func() string { return someWord(chance, 8) + "x" }
	s := api.Series{Measure: someWord(chance, 8), Field: column()}
	for range chance.Intn(api.MaxTags + 1) {
		s.Tags = append(s.Tags, api.Tag{Key: column(), Value: someWord(chance, 30)})
	}
	s.Tags = Sort(s.Tags)
	return s
}

// texts goes through all texts of at most so many of these letters.
func texts(letters []string, most int, see func(string)) {
	var add func(s string, left int)
	add = func(s string, left int) {
		see(s)
		if left == 0 {
			return
		}
		for _, l := range letters {
			add(s+l, left-1)
		}
	}
	add("", most)
}

// roomy is a list with room behind its end, and a look at all of it.
func roomy(l []api.Tag) (list, all []api.Tag) {
	all = append(slices.Clone(l), tags("room", "1", "room", "2", "room", "3")...)
	return all[:len(l)], all
}
