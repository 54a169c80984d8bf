package line

import (
	"math/rand"
	"slices"
	"strings"
	"testing"

	"weir/api"
	"weir/expect"
)

// The chapter's third example.
func TestParseExample(t *testing.T) {
	l, err := Parse("# a\n\ncpu v=1i 1\ncpu v 1\n")
	numbered(t, "the third example", err, api.ErrLine, 5, 3)
	if l != nil {
		t.Errorf("%v beside an error", l)
	}
	l, err = Parse("# a\n\ncpu v=1i 1\n")
	if len(l) != 1 || !same(l[0], point("cpu", nil, "v", 1, 1)) || err != nil {
		t.Errorf("%v, %v", l, err)
	}
}

// P6.2
func TestParse(t *testing.T) {
	for s, times := range map[string][]int64{
		"": nil, "\n": nil, "\n\n\n": nil, "#": nil, "# a": nil, "#\n#\n": nil, "\n#a v=1i 1": nil, "#\\\n": nil, "# " + strings.Repeat("x", 2*api.MaxLine): nil,
		"a v=1i 1": {1}, "a v=1i 1\n": {1}, "\na v=1i 1": {1}, "a v=1i 1\n\n\n": {1}, "a v=1i 1\na v=1i 2": {1, 2}, "a v=1i 2\n#\n\na v=1i 1\n": {2, 1}, "a v=1i 1\na v=1i 1\n": {1, 1},
		"a v=1i 1\n# b v=1i 2\n\na v=1i 3\n#": {1, 3},
	} {
		l, err := Parse(s)
		fails(t, s, err, 0, expect.None)
		var got []int64
		for _, p := range l {
			got = append(got, p.Time)
		}
		if !slices.Equal(got, times) {
			t.Errorf("%.100q: %v", s, got)
		}
	}
}

// P6.2: which line, and where in it.
func TestParseFaults(t *testing.T) {
	long := strings.Repeat("x", api.MaxLine+1)
	for _, c := range []struct {
		s          string
		e          api.Errno
		pos, index int
	}{
		{"x", api.ErrLine, 1, 0}, {" ", api.ErrLine, 0, 0}, {" # a", api.ErrLine, 0, 0}, {"\r\n", api.ErrLine, 1, 0}, {"a v=1i 1\r\n", api.ErrLine, 8, 0},
		{"\n\nx\n", api.ErrLine, 1, 2}, {"#\nx\ny z", api.ErrLine, 1, 1}, {"a v=1i 1\na v=1i 1\na v=1i", api.ErrLine, 6, 2}, {"a v=1i 1\na v=01i 1\nx", api.ErrLine, 4, 1},
		{"\n\n\n\\", api.ErrLine, 0, 3}, {"# " + long + "\n" + long, api.ErrLong, expect.None, 1}, {long + "\nx", api.ErrLong, expect.None, 0}, {"x\n" + long, api.ErrLine, 1, 0},
	} {
		l, err := Parse(c.s)
		numbered(t, c.s, err, c.e, c.pos, c.index)
		if l != nil {
			t.Errorf("%.100q: %v beside an error", c.s, l)
		}
	}
}

// someLine draws a line, right or wrong, empty or a remark.
func someLine(chance *rand.Rand) string {
	switch chance.Intn(8) {
	case 0:
		return ""
	case 1:
		return "#" + strings.Repeat("#", chance.Intn(3))
	case 2:
		if chance.Intn(8) == 0 {
			return "x v="
		}
		return "# v"
	}
	s, _ := Print(somePoint(chance))
	return s
}

// P6.2: lines held against One, one by one.
func TestParseByOnes(t *testing.T) {
	chance := draw()
	for range 2000 {
		var all []string
		for range chance.Intn(10) {
			all = append(all, someLine(chance))
		}
		s := strings.Join(all, "\n")
		var want []api.Point
		index, pos := expect.None, expect.None
		for i, text := range all {
			if text == "" || text[0] == '#' {
				continue
			}
			p, at := reads(text)
			if at != expect.None {
				index, pos = i, at
				break
			}
			want = append(want, p)
		}
		l, err := Parse(s)
		if index != expect.None {
			numbered(t, s, err, api.ErrLine, pos, index)
			continue
		}
		if !slices.EqualFunc(l, want, same) || err != nil {
			t.Fatalf("%q: %v, %v", s, l, err)
		}
	}
}

// P6.2: as many lines as there are.
func TestManyLines(t *testing.T) {
	const n = 200000
	if l, err := Parse(strings.Repeat("a v=1i 1\n", n)); len(l) != n || err != nil {
		t.Errorf("%d, %v", len(l), err)
	}
	_, err := Parse(strings.Repeat("\n", n) + "#\n?")
	numbered(t, "many lines", err, api.ErrLine, 1, n+1)
}
