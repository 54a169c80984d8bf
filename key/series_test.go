package key

import (
	"slices"
	"strings"
	"testing"

	"weir/api"
	"weir/expect"
	"weir/fault"
)

// The chapter's first example.
func TestKeyExamples(t *testing.T) {
	s := series("cpu", "host", "a", "zone", "z 1", "v")
	if got := Print(s); got != `cpu,host=a,zone=z\ 1 v` {
		t.Errorf("%q", got)
	}
	if got, err := Parse(`cpu,host=a,zone=z\ 1 v`); !sameSeries(got, s) || err != nil {
		t.Errorf("%q, %v", got, err)
	}
	_, err := Parse("cpu,zone=z,host=a v")
	fails(t, "tags that fall", err, api.ErrTags, expect.None)
	for text, pos := range map[string]int{"cpu,host v": 8, "cpu v w": 5, `cp\u v`: 2, "cpu": 3, "": 0} {
		_, err := Parse(text)
		fails(t, text, err, api.ErrKey, pos)
	}
}

// part is where in a key a byte stands.
type part int

const (
	inMeasure part = iota
	inName
	inValue
	inField
	nowhere
)

// next is the part that a bare mark leads to.
func next(at part, mark byte) part {
	switch {
	case at == inMeasure && mark == ',', at == inValue && mark == ',':
		return inName
	case at == inMeasure && mark == ' ', at == inValue && mark == ' ':
		return inField
	case at == inName && mark == '=':
		return inValue
	}
	return nowhere
}

// model reads a key byte by byte: the words of it, or the place of the first wrong byte.
func model(s string) (words []string, pos int) {
	at, word := inMeasure, ""
	for i := 0; i < len(s); i++ {
		if s[i] == '\\' {
			if i+1 == len(s) || strings.IndexByte(`, =\`, s[i+1]) < 0 {
				return nil, i
			}
			i++
			word += s[i : i+1]
			continue
		}
		if strings.IndexByte(", =", s[i]) < 0 {
			word += s[i : i+1]
			continue
		}
		if at = next(at, s[i]); at == nowhere {
			return nil, i
		}
		words, word = append(words, word), ""
	}
	if at != inField {
		return nil, len(s)
	}
	return append(words, word), expect.None
}

// holds holds Parse of a text against the model.
func holds(t *testing.T, s string) {
	t.Helper()
	got, err := Parse(s)
	words, pos := model(s)
	if err != nil && !sameSeries(got, api.Series{}) {
		t.Errorf("%q: %q beside an error", s, got)
	}
	if pos != expect.None {
		fails(t, s, err, api.ErrKey, pos)
		return
	}
	want := series(words...)
	if wrong := Right(want); wrong != nil {
		fails(t, s, err, fault.Code(wrong), expect.None)
		return
	}
	if !sameSeries(got, want) || err != nil {
		t.Errorf("%q: %q, %v", s, got, err)
	}
	if Print(got) != s {
		t.Errorf("%q is printed as %q", s, Print(got))
	}
}

// P5.5, P5.6: all short texts.
func TestShortKeys(t *testing.T) {
	texts([]string{"a", ",", " ", "=", `\`}, 8, func(s string) { holds(t, s) })
	texts([]string{"a", "b", ",a=", ",b=", " ", "time", `\`, "\n", "\xff", ","}, 5, func(s string) { holds(t, s) })
}

// P5.5: keys with a byte more, less, or another one.
func TestTurnedKeys(t *testing.T) {
	for _, s := range []string{"cpu v", `cpu,host=a,zone=z\ 1 v`, `c\,,a\==b\\,c=d\ \  \\v`, `é,é=😀 \ `, "m,a=1,b=2,c=3,d=4,e=5,f=6,g=7,h=8 v", "m,a=1,b=2,c=3,d=4,e=5,f=6,g=7,h=8,i=9 v"} {
		holds(t, s)
		for i := range len(s) + 1 {
			holds(t, s[:i])
			holds(t, s[i:])
			for _, b := range []string{"", "a", ",", " ", "=", `\`, "\x00", "\x7f", "\n", "\xff", ",time=1"} {
				holds(t, s[:i]+b+s[i:])
				if i < len(s) {
					holds(t, s[:i]+b+s[i+1:])
				}
			}
		}
	}
}

// P5.5: what is told first.
func TestKeyFaults(t *testing.T) {
	for s, pos := range map[string]int{
		" ": -1, " v": -1, "\n v w": 3, "=": 0, ",": 1, "cpu=a v": 3, "cpu,": 4, "cpu, v": 4, "cpu,=": 5, "cpu,a=": 6, "cpu,a=b": 7, "cpu,a=b=c v": 7, "cpu,a=b,": 8, "cpu,a,b=c v": 5,
		"cpu v ": 5, "cpu v,a=b": 5, "cpu v=1": 5, "cpu  v": 4, `cpu,a\x=b v`: 5, `cpu,a=\b v`: 6, `cpu \v`: 4, `cpu v\`: 5, `time,time=\`: 10, "cpu,b=1,a=1 v w": 13,
	} {
		holds(t, s)
		_, err := Parse(s)
		if pos == expect.None {
			fails(t, s, err, api.ErrName, pos)
		} else {
			fails(t, s, err, api.ErrKey, pos)
		}
	}
	for s, e := range map[string]api.Errno{
		"cpu time": api.ErrName, "time v": 0, "cpu,time=1 v": api.ErrTags, "cpu,a=1,a=1 v": api.ErrTags, "cpu,a= v": api.ErrTags, "cpu,=a v": api.ErrTags, "cpu ": api.ErrName,
		"\n,a= ": api.ErrName, "cpu,a= time": api.ErrTags, "cpu\n v": api.ErrName, "cpu v\xff": api.ErrName, "cpu,a=\x7f v": api.ErrTags,
		strings.Repeat("x", 64) + " v": 0, strings.Repeat("x", 65) + " v": api.ErrName, strings.Repeat(`\ `, 64) + " v": 0, "m,a=" + strings.Repeat("x", 257) + " v": api.ErrTags,
	} {
		_, err := Parse(s)
		fails(t, s, err, e, expect.None)
	}
}

// P5.5, P5.6
func TestPrintedKeys(t *testing.T) {
	chance := draw()
	for range 5000 {
		s := someSeries(chance)
		text := Print(s)
		if err := Right(s); err != nil || text == "" {
			t.Fatalf("%q: %v, %q", s, err, text)
		}
		if got, err := Parse(text); !sameSeries(got, s) || err != nil {
			t.Fatalf("%q: %q, %v", text, got, err)
		}
		holds(t, text)
	}
	for _, s := range []api.Series{{}, series("", "v"), series("cpu", ""), series("cpu", "time"), series("cpu", "b", "1", "a", "1", "v"), series("cpu", "a", "", "v"), series("cpu\n", "v"), {Measure: "m", Tags: many(9), Field: "v"}} {
		if got := Print(s); got != "" {
			t.Errorf("%q: %q", s, got)
		}
	}
	if got := Print(series(`a\`, "b,", "c=", `\v w`)); got != `a\\,b\,=c\= \\v\ w` {
		t.Errorf("%q", got)
	}
}

// P3
func TestKeysAreTheCallers(t *testing.T) {
	list, all := roomy(tags("a", "1", "b", "2"))
	s := api.Series{Measure: "m", Tags: list, Field: "v"}
	kept := slices.Clone(all)
	text := Print(s)
	if Right(s) != nil || Tags(list) != nil || Compare(s, s) != 0 || !slices.Equal(all, kept) {
		t.Errorf("changed: %q", all)
	}
	one, _ := Parse(text)
	two, _ := Parse(text)
	one.Tags[0].Value = "x"
	if two.Tags[0].Value != "1" {
		t.Error("what two calls answer is one list")
	}
}
