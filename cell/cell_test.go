package cell

import (
	"math"
	"math/big"
	"regexp"
	"slices"
	"strings"
	"testing"

	"weir/api"
	"weir/sample"
)

// The chapter's first example.
func TestFirstExample(t *testing.T) {
	for _, c := range []struct{ offset, time, start int64 }{{0, -1, -3600}, {0, 3600, 3600}, {100, 50, -3500}} {
		got, err := Of(3600, c.offset, nil, nil, c.time)
		if err != nil || got.Start != c.start || len(got.Group) != 0 {
			t.Errorf("%v: %v, %v", c, got, err)
		}
	}
	if s := Name(api.Cell{Group: []string{"a b", ""}}); s != `0,a\ b,` {
		t.Errorf("%q", s)
	}
}

// P23.1: which windows there are, and which of them start inside int64.
func TestOf(t *testing.T) {
	for _, every := range []int64{math.MinInt64, -1, 0, 1, 2, 7, 3600, api.MaxEvery - 1, api.MaxEvery, api.MaxEvery + 1, math.MaxInt64} {
		for _, offset := range []int64{math.MinInt64, -1, 0, 1, 6, 3599, every - 1, every, api.MaxEvery, math.MaxInt64} {
			for _, at := range []int64{math.MinInt64, math.MinInt64 + 1, math.MinInt64 + 3600, -api.MaxTime, -3600, -1, 0, 1, 3600, api.MaxTime, math.MaxInt64} {
				got, err := Of(every, offset, []string{"host"}, []api.Tag{{Key: "host", Value: "a"}}, at)
				what := []int64{every, offset, at}
				if every < 1 || every > 1<<58 || offset < 0 || offset >= every {
					fails(t, what, err, api.ErrEvery)
				} else if start := window(at, every, offset); !start.IsInt64() {
					fails(t, what, err, api.ErrRange)
				} else if fails(t, what, err, 0); !sameCells(got, api.Cell{Start: start.Int64(), Group: []string{"a"}}) {
					t.Errorf("%v: %v, not at %v", what, got, start)
				}
				if err != nil && (got.Start != 0 || got.Group != nil) {
					t.Errorf("%v: %v with an error", what, got)
				}
			}
		}
	}
}

// window is the start of a time's window, without bounds: it is gone back from the time till offset is a multiple away.
func window(at, every, offset int64) *big.Int {
	over := new(big.Int).Sub(big.NewInt(at), big.NewInt(offset))
	return new(big.Int).Sub(big.NewInt(at), over.Mod(over, big.NewInt(every)))
}

// P23.1: the group is of the tags' first values, empty where there is none.
func TestGroup(t *testing.T) {
	tags := []api.Tag{{Key: "zone", Value: "z"}, {Key: "host", Value: "a"}, {Key: "host", Value: "b"}, {Key: "", Value: "e"}}
	for _, c := range []struct{ names, want []string }{
		{nil, nil},
		{[]string{"host"}, []string{"a"}},
		{[]string{"zone", "host"}, []string{"z", "a"}},
		{[]string{"nope", "host", "host", ""}, []string{"", "a", "a", "e"}},
	} {
		names, given := sample.Room(c.names, "spare"), sample.Room(tags, api.Tag{Key: "spare"})
		got, err := Of(10, 0, names, given, 15)
		if fails(t, c, err, 0); !sameCells(got, api.Cell{Start: 10, Group: c.want}) {
			t.Errorf("%v: %v", c, got)
		}
		sample.Fill(got.Group, "spoilt")
		if !slices.Equal(sample.Spare(names), append(slices.Clone(c.names), "spare")) || !slices.Equal(sample.Spare(given), append(slices.Clone(tags), api.Tag{Key: "spare"})) {
			t.Errorf("%v: %v, %v", c, names, given)
		}
	}
}

// P23.1: by Start, then by the texts, then by how many there are: rising here.
func TestCompare(t *testing.T) {
	rising := []api.Cell{
		{Start: math.MinInt64, Group: []string{"z"}},
		{Start: -1}, {Start: -1, Group: []string{"z", "z"}},
		{}, {Group: []string{""}}, {Group: []string{"", ""}}, {Group: []string{"", "b"}}, {Group: []string{"A"}}, {Group: []string{"a"}},
		{Group: []string{"a", ""}}, {Group: []string{"a", "", "c"}}, {Group: []string{"a", "b"}}, {Group: []string{"aa"}}, {Group: []string{"b", "a"}},
		{Group: []string{"é"}}, {Group: []string{"\xff"}},
		{Start: 1}, {Start: 10}, {Start: math.MaxInt64},
	}
	for i, a := range rising {
		for j, b := range rising {
			want := 0
			if i < j {
				want = -1
			} else if i > j {
				want = 1
			}
			if got := Compare(a, b); got != want {
				t.Errorf("%v, %v: %d, not %d", a, b, got, want)
			}
		}
	}
	if Compare(api.Cell{Group: []string{}}, api.Cell{}) != 0 {
		t.Error("no texts and none are two cells")
	}
}

// P23.7: Parse of Name of any cell is that cell.
func TestAnyNames(t *testing.T) {
	d := draw()
	for range 20000 {
		c := api.Cell{Start: sample.One(d, 0, int64(d(100)-50), math.MinInt64, math.MaxInt64, d.Number())}
		for range d(4) {
			text := ""
			for range d(5) {
				text += sample.One(d, "a", ",", " ", "=", `\`, "\n", "\x00", "\xff", "é", "-", "5")
			}
			c.Group = append(c.Group, text)
		}
		name := Name(c)
		got, err := Parse(name)
		if fails(t, name, err, 0); !sameCells(got, c) {
			t.Fatalf("%q: %v, not %v", name, got, c)
		}
	}
}

// P23.7: of all short texts those are taken that are names, and they are the names of what is told.
func TestShortNames(t *testing.T) {
	name := regexp.MustCompile(`^(0|-?[1-9][0-9]*)(,([^, =\\]|\\[, =\\])*)*$`)
	letters := []string{"0", "1", "-", ",", `\`, " ", "=", "a"}
	taken := 0
	var each func(s string, left int)
	each = func(s string, left int) {
		c, err := Parse(s)
		if !name.MatchString(s) {
			fails(t, s, err, api.ErrForm)
			if c.Start != 0 || len(c.Group) > 0 {
				t.Errorf("%q: %v with an error", s, c)
			}
		} else if fails(t, s, err, 0); Name(c) != s {
			t.Errorf("%q: %v", s, c)
		} else {
			taken++
		}
		if left > 0 {
			for _, letter := range letters {
				each(s+letter, left-1)
			}
		}
	}
	each("", 6)
	if taken < 1000 {
		t.Errorf("%d names", taken)
	}
}

// P23.1: a Start is a number of int64 in its one form.
func TestParse(t *testing.T) {
	for s, want := range map[string]api.Cell{
		"0":                         {},
		"-1,":                       {Start: -1, Group: []string{""}},
		"9223372036854775807,a":     {Start: math.MaxInt64, Group: []string{"a"}},
		"-9223372036854775808,,a,":  {Start: math.MinInt64, Group: []string{"", "a", ""}},
		`5,a\,b,\ ,\=,\\` + ",\x00": {Start: 5, Group: []string{"a,b", " ", "=", `\`, "\x00"}},
	} {
		got, err := Parse(s)
		if fails(t, s, err, 0); !sameCells(got, want) {
			t.Errorf("%q: %v, not %v", s, got, want)
		}
	}
	for _, s := range []string{
		"", ",", "a", "-", "+1", "01", "-0", "00", "0 ", " 0", "1_0", "0x1", "1e3", "9223372036854775808", "-9223372036854775809", strings.Repeat("9", 50),
		"0,a b", "0,a=b", `0,\a`, `0,\`, "0=", "0,a ", `0\,a`, "0,=",
	} {
		_, err := Parse(s)
		fails(t, s, err, api.ErrForm)
	}
}
