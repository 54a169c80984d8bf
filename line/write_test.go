package line

import (
	"math"
	"slices"
	"strings"
	"testing"

	"weir/api"
	"weir/expect"
)

// The chapter's first and third example.
func TestPrintExamples(t *testing.T) {
	p := point("cpu", []string{"host", "a b"}, "v", -4, 10)
	p.Fields = append(p.Fields, api.Field{Key: "w", N: 5})
	if s, err := Print(p); s != `cpu,host=a\ b v=-4i,w=5i 10` || err != nil {
		t.Errorf("%q, %v", s, err)
	}
	p.Fields = nil
	unprinted(t, p, api.ErrLine)
}

// unprinted holds Print against an error, which has no place, and All, which tells the number.
func unprinted(t *testing.T, p api.Point, e api.Errno) {
	t.Helper()
	s, err := Print(p)
	fails(t, p, err, e, expect.None)
	if s != "" {
		t.Errorf("%.100q beside an error", s)
	}
	sound := point("m", nil, "v", 1, 1)
	for i, l := range [][]api.Point{{p, sound}, {sound, p, p}, {sound, sound, p}} {
		s, err := All(l)
		numbered(t, l, err, e, expect.None, i)
		if s != "" {
			t.Errorf("%.100q beside an error", s)
		}
	}
}

// P6.3
func TestNotPlain(t *testing.T) {
	tags := []string{"a", "b", "c", "d"}
	for _, p := range []api.Point{
		{}, {Measure: "m"}, {Measure: "m", Tags: []api.Tag{{Key: "a", Value: "b"}}, Fields: []api.Field{}},
		point("", tags, "v", 1, 1), point("\n", tags, "v", 1, 1), point("a\nb", tags, "v", 1, 1), point("a\n", tags, "v", 1, 1), point("#", tags, "v", 1, 1), point("#a", nil, "v", 1, 1),
		point("m", []string{"", "b"}, "v", 1, 1), point("m", []string{"a", ""}, "v", 1, 1), point("m", []string{"a\n", "b"}, "v", 1, 1), point("m", []string{"a", "\nb"}, "v", 1, 1),
		point("m", []string{"a", "b", "", "d"}, "v", 1, 1), point("m", []string{"a", "b", "c", ""}, "v", 1, 1), point("m", []string{"a", "b", "c", "d\n"}, "v", 1, 1),
		point("m", tags, "", 1, 1), point("m", tags, "\n", 1, 1), point("m", tags, "v\nw", 1, 1), point("", []string{"", ""}, "", 0, 0),
		{Measure: "m", Fields: []api.Field{{Key: "v"}, {Key: ""}}}, {Measure: "m", Fields: []api.Field{{Key: "v"}, {Key: "w\n"}, {Key: "x"}}},
		point(strings.Repeat("x", 2*api.MaxLine)+"\n", nil, "v", 1, 1), point("m", []string{strings.Repeat("x", 2*api.MaxLine), ""}, "v", 1, 1),
	} {
		unprinted(t, p, api.ErrLine)
	}
}

// P6.3: a line may have MaxLine bytes, escapes among them.
func TestPrintLong(t *testing.T) {
	room := api.MaxLine - len(" v=1i 1")
	for _, measure := range []string{strings.Repeat("x", room), strings.Repeat(",", room/2) + strings.Repeat("x", room%2)} {
		s, err := Print(point(measure, nil, "v", 1, 1))
		if len(s) != api.MaxLine || err != nil {
			t.Errorf("%d, %v", len(s), err)
		}
		holds(t, s)
		if got, err := All([]api.Point{point(measure, nil, "v", 1, 1)}); got != s+"\n" || err != nil {
			t.Errorf("%d, %v", len(got), err)
		}
		unprinted(t, point(measure, nil, "v", 1, 10), api.ErrLong)
		unprinted(t, point(measure, nil, "v", -1, 1), api.ErrLong)
		unprinted(t, point(measure+"x", nil, "v", 1, 1), api.ErrLong)
		unprinted(t, point("m", []string{"a", measure}, "v", 1, 1), api.ErrLong)
		unprinted(t, point("m", nil, measure+"x", 1, 1), api.ErrLong)
	}
	p := point("m", nil, "v", 1, 1)
	p.Tags = slices.Repeat([]api.Tag{{Key: "a", Value: "b"}}, 1<<16)
	unprinted(t, p, api.ErrLong)
	p.Tags, p.Fields = nil, slices.Repeat(p.Fields, 1<<16)
	unprinted(t, p, api.ErrLong)
}

// P6.3: what batch would refuse is plain.
func TestPlain(t *testing.T) {
	for want, p := range map[string]api.Point{
		"m v=0i 0":                           point("m", nil, "v", 0, 0),
		"time,time=time time=1i 1":           point("time", []string{"time", "time"}, "time", 1, 1),
		"m,b=1,a=2,b=3 v=1i 1":               point("m", []string{"b", "1", "a", "2", "b", "3"}, "v", 1, 1),
		`\,\ \=\\,\ =\\ \==1i 1`:             point(`, =\`, []string{" ", `\`}, "=", 1, 1),
		"\x00\xff,\r=\x7f \t=1i 1":           point("\x00\xff", []string{"\r", "\x7f"}, "\t", 1, 1),
		"a#,#=# #=1i 1":                      point("a#", []string{"#", "#"}, "#", 1, 1),
		"m v=9223372036854775807i 1":         point("m", nil, "v", math.MaxInt64, 1),
		"m v=-9223372036854775808i 1":        point("m", nil, "v", math.MinInt64, 1),
		"m v=1i 9223372036854775807":         point("m", nil, "v", 1, math.MaxInt64),
		"m v=1i -9223372036854775808":        point("m", nil, "v", 1, math.MinInt64),
		strings.Repeat("x", 300) + " v=1i 1": point(strings.Repeat("x", 300), nil, "v", 1, 1),
		"m w=1i,v=2i,w=3i 1":                 {Measure: "m", Fields: []api.Field{{Key: "w", N: 1}, {Key: "v", N: 2}, {Key: "w", N: 3}}, Time: 1},
	} {
		if s, err := Print(p); s != want || err != nil {
			t.Errorf("%q: %q, %v", want, s, err)
		}
	}
}

// P6.4, P6.5
func TestBack(t *testing.T) {
	chance := draw()
	for i := range 400 {
		var l []api.Point
		for range i % 20 {
			l = append(l, somePoint(chance))
		}
		want := ""
		for _, p := range l {
			s, err := Print(p)
			if err != nil {
				t.Fatalf("%v: %v", p, err)
			}
			if got, err := One(s); !same(got, p) || err != nil {
				t.Fatalf("%q: %v, %v", s, got, err)
			}
			holds(t, s)
			want += s + "\n"
		}
		s, err := All(l)
		if s != want || err != nil {
			t.Fatalf("%q: %q, %v", want, s, err)
		}
		if got, err := Parse(s); !slices.EqualFunc(got, l, same) || err != nil {
			t.Fatalf("%q: %v, %v", s, got, err)
		}
	}
	if s, err := All(nil); s != "" || err != nil {
		t.Errorf("All of nothing: %q, %v", s, err)
	}
}

// P3
func TestWrittenStays(t *testing.T) {
	tags := []api.Tag{{Key: "b", Value: "1"}, {Key: "a", Value: "2"}, {Key: "room"}}
	fields := []api.Field{{Key: "w", N: 1}, {Key: "v", N: 2}, {Key: "room"}}
	p := api.Point{Measure: "m", Tags: tags[:2], Fields: fields[:2], Time: 1}
	keptTags, keptFields := slices.Clone(tags), slices.Clone(fields)
	if s, err := All([]api.Point{p, p}); s != "m,b=1,a=2 w=1i,v=2i 1\nm,b=1,a=2 w=1i,v=2i 1\n" || err != nil {
		t.Errorf("%q, %v", s, err)
	}
	if !slices.Equal(tags, keptTags) || !slices.Equal(fields, keptFields) {
		t.Errorf("changed: %q, %v", tags, fields)
	}
}
