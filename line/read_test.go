package line

import (
	"math"
	"math/big"
	"regexp"
	"strconv"
	"strings"
	"testing"

	"weir/api"
	"weir/expect"
)

// The chapter's first and second example.
func TestReadExamples(t *testing.T) {
	p, err := One(`cpu,host=a\ b v=-4i,w=5i 10`)
	want := api.Point{Measure: "cpu", Tags: []api.Tag{{Key: "host", Value: "a b"}}, Fields: []api.Field{{Key: "v", N: -4}, {Key: "w", N: 5}}, Time: 10}
	if !same(p, want) || err != nil {
		t.Errorf("%v, %v", p, err)
	}
	if p, err := One("cpu v=1i 10"); !same(p, point("cpu", nil, "v", 1, 10)) || err != nil {
		t.Errorf("%v, %v", p, err)
	}
	for s, pos := range map[string]int{
		"cpu v=1 10": 7, "cpu v=01i 10": 6, "cpu v=i 10": 6, "cpu v=1i": 8, "cpu v=1i x": 9, "cpu v=1i 10 ": 11, "cpu, v=1i 1": 4, "cpu,=a v=1i 1": 4, "cpu,host= v=1i 1": 9,
		"cpu,host v=1i 1": 8, `cp\u v=1i 1`: 2, "cpu v=9223372036854775808i 1": 6, "#": 0, "": 0,
	} {
		broken(t, s, pos)
	}
}

// broken holds One against an error at a place.
func broken(t *testing.T, s string, pos int) {
	t.Helper()
	p, err := One(s)
	fails(t, s, err, api.ErrLine, pos)
	if !same(p, api.Point{}) {
		t.Errorf("%.200q: %v beside an error", s, p)
	}
}

// P6.1: where each part goes wrong.
func TestNoLines(t *testing.T) {
	for s, pos := range map[string]int{
		" ": 0, ",": 0, "=": 0, `\`: 0, "cpu": 3, "cpu=": 3, "cpu=1i 1": 3, " cpu v=1i 1": 0, " #": 0, ",a=b v=1i 1": 0, `cpu\`: 3, `cpu\ v=1i 1`: 6, "cpu  v=1i 1": 4,
		"cpu,": 4, "cpu,,": 4, "cpu,a": 5, "cpu,a,b=c v=1i 1": 5, "cpu,a=": 6, "cpu,a=,b=c v=1i 1": 6, "cpu,a==b v=1i 1": 6, "cpu,a=b": 7, "cpu,a=b=c v=1i 1": 7, "cpu,a=b, v=1i 1": 8,
		`cpu,a\b=c v=1i 1`: 5, `cpu,a=\b v=1i 1`: 6, `cpu,\a=b v=1i 1`: 4,
		"cpu ": 4, "cpu v": 5, "cpu v 1": 5, "cpu v,w=1i 1": 5, "cpu =1i 1": 4, "cpu ,v=1i 1": 4, `cpu v\=1i 1`: 9, `cpu \v=1i 1`: 4,
		"cpu v=": 6, "cpu v==": 6, "cpu v=-": 6, "cpu v=-i 1": 6, "cpu v=--1i 1": 6, "cpu v=+1i 1": 6, "cpu v=-0i 1": 6, "cpu v=00i 1": 6, "cpu v=-01i 1": 6, "cpu v=1-1i 1": 7, "cpu v=1.5i 1": 7,
		"cpu v=0x1i 1": 7, "cpu v=1_0i 1": 7, "cpu v=1e1i 1": 7, "cpu v=1I 1": 7, "cpu v=1ii 1": 8, "cpu v= 1i 1": 6, "cpu v=1 i 1": 7, "cpu v=١i 1": 6, `cpu v="1" 1`: 6, "cpu v=t 1": 6,
		"cpu v=-9223372036854775809i 1": 6, "cpu v=18446744073709551617i 1": 6, "cpu v=99999999999999999999999999999i 1": 6, "cpu v=01": 6, "cpu v=9223372036854775808": 6,
		"cpu v=1i,": 9, "cpu v=1i, 1": 9, "cpu v=1i,,w=1i 1": 9, "cpu v=1i,w 1": 10, "cpu v=1i,w=2 1": 12, "cpu v=1i,w=02i 1": 11, "cpu v=1i=": 8, "cpu v=1i,w=2i": 13, `cpu v=1i,\w=2i 1`: 9,
		"cpu v=1i ": 9, "cpu v=1i  1": 9, "cpu v=1i -": 9, "cpu v=1i 01": 9, "cpu v=1i -0": 9, "cpu v=1i 1i": 10, "cpu v=1i 1,": 10, "cpu v=1i 1\r": 10, "cpu v=1i 1 1": 10, "cpu v=1i 1-": 10,
		"cpu v=1i 9223372036854775808": 9, "cpu v=1i -9223372036854775809": 9, "cpu v=1i 1.0": 10, "cpu v=1i +1": 9, "cpu v=1i\t1": 8, "cpu v=1i 1\x00": 10,
		"\n": 0, "cpu v=1i 1\n": 10, "#\n": 1, "#a v=1i 1": 0, "#cpu v=1i 1\n\n": 11, "x\n": 1, "cpu v=1i 1\ncpu v=1i 1": 10, `\` + "\n": 1, "\n#": 0, "##": 0, `\# v=1i 1`: 0,
	} {
		broken(t, s, pos)
	}
}

// P6.1: what is read, right or not.
func TestLines(t *testing.T) {
	for s, want := range map[string]api.Point{
		"a b=0i 0":                           point("a", nil, "b", 0, 0),
		"cpu v=-1i -1":                       point("cpu", nil, "v", -1, -1),
		"cpu v=9223372036854775807i 0":       point("cpu", nil, "v", math.MaxInt64, 0),
		"cpu v=-9223372036854775808i 0":      point("cpu", nil, "v", math.MinInt64, 0),
		"cpu v=0i 9223372036854775807":       point("cpu", nil, "v", 0, math.MaxInt64),
		"cpu v=0i -9223372036854775808":      point("cpu", nil, "v", 0, math.MinInt64),
		"time,time=time time=10i 100":        point("time", []string{"time", "time"}, "time", 10, 100),
		"cpu,b=1,a=2,b=3 v=1i 1":             point("cpu", []string{"b", "1", "a", "2", "b", "3"}, "v", 1, 1),
		`\,\ \=\\,\ =\\ \==1i 1`:             point(`, =\`, []string{" ", `\`}, "=", 1, 1),
		"\x00\xff,\r=\x7f \t=1i 1":           point("\x00\xff", []string{"\r", "\x7f"}, "\t", 1, 1),
		"a#,#=# #=1i 1":                      point("a#", []string{"#", "#"}, "#", 1, 1),
		strings.Repeat("x", 300) + " v=1i 1": point(strings.Repeat("x", 300), nil, "v", 1, 1),
		`i,-1=0i 1i=1i 1`:                    point("i", []string{"-1", "0i"}, "1i", 1, 1),
	} {
		if p, err := One(s); !same(p, want) || err != nil {
			t.Errorf("%q: %v, %v", s, p, err)
		}
	}
	p, err := One("m w=1i,v=2i,w=3i 4")
	if want := []api.Field{{Key: "w", N: 1}, {Key: "v", N: 2}, {Key: "w", N: 3}}; err != nil || !same(p, api.Point{Measure: "m", Fields: want, Time: 4}) {
		t.Errorf("%v, %v", p, err)
	}
}

// P6.1: how long a line may be.
func TestLongLines(t *testing.T) {
	const behind = " v=1i 1"
	most := strings.Repeat("x", api.MaxLine-len(behind)) + behind
	if p, err := One(most); len(p.Measure) != api.MaxLine-len(behind) || err != nil {
		t.Errorf("%d, %v", len(p.Measure), err)
	}
	for _, s := range []string{"x" + most, "#" + most, "\n" + most, most + "\n", strings.Repeat(" ", api.MaxLine+1), strings.Repeat("x", 1<<24)} {
		p, err := One(s)
		fails(t, s, err, api.ErrLong, expect.None)
		if !same(p, api.Point{}) {
			t.Error("a point beside an error")
		}
	}
	broken(t, strings.Repeat("x", api.MaxLine), api.MaxLine)
	broken(t, strings.Repeat("x", api.MaxLine-1)+"\n", api.MaxLine-1)
	broken(t, "#"+strings.Repeat("x", api.MaxLine-1), 0)
	broken(t, "x v="+strings.Repeat("1", api.MaxLine-4), 4)
	tags := "x" + strings.Repeat(",a=b", 2000) + behind
	if p, err := One(tags); len(p.Tags) != 2000 || err != nil {
		t.Errorf("%d, %v", len(p.Tags), err)
	}
}

// What the model reads a line by.
var (
	wordForm   = regexp.MustCompile(`^(?:[^, =\\]|\\[, =\\])*`)
	rowForm    = regexp.MustCompile(`^-?[0-9]*`)
	numberForm = regexp.MustCompile(`^(?:0|-?[1-9][0-9]*)$`)
	unescaped  = strings.NewReplacer(`\,`, ",", `\ `, " ", `\=`, "=", `\\`, `\`)
)

// The parts of a line.
const (
	measure = "measure"
	tag     = "tag"
	value   = "value"
	field   = "field"
	number  = "number"
	letter  = "letter"
	clock   = "clock"
)

// ways is which part comes behind which, by the byte between them.
var ways = map[string]map[byte]string{
	measure: {',': tag, ' ': field},
	tag:     {'=': value},
	value:   {',': tag, ' ': field},
	field:   {'=': number},
	number:  {'i': letter},
	letter:  {',': field, ' ': clock},
}

// word is the name or text that stands at a place: how long it is, what it says; or where it is wrong.
func word(s string, at int) (size int, said string, wrong int) {
	found := wordForm.FindString(s[at:])
	if end := at + len(found); found == "" || strings.HasPrefix(s[end:], `\`) {
		return 0, "", end
	}
	return len(found), unescaped.Replace(found), expect.None
}

// decimal is the number that stands there.
func decimal(s string, at int) (size int, n int64, wrong int) {
	found := rowForm.FindString(s[at:])
	big, _ := new(big.Int).SetString(found, 10)
	if !numberForm.MatchString(found) || !big.IsInt64() {
		return 0, 0, at
	}
	return len(found), big.Int64(), expect.None
}

// add lays what a part says into a point.
func add(p *api.Point, part, said string, n int64) {
	switch part {
	case measure:
		p.Measure = said
	case tag:
		p.Tags = append(p.Tags, api.Tag{Key: said})
	case value:
		p.Tags[len(p.Tags)-1].Value = said
	case field:
		p.Fields = append(p.Fields, api.Field{Key: said})
	case number:
		p.Fields[len(p.Fields)-1].N = n
	case clock:
		p.Time = n
	}
}

// reads is what One must tell of a line that is not too long: a point, or the place of what is wrong.
func reads(s string) (p api.Point, wrong int) {
	if at := strings.IndexByte(s, '\n'); at >= 0 {
		return api.Point{}, at
	}
	if strings.HasPrefix(s, "#") {
		return api.Point{}, 0
	}
	at := 0
	for part := measure; ; at++ {
		size, said, n, wrong := 0, "", int64(0), expect.None
		switch part {
		case number, clock:
			size, n, wrong = decimal(s, at)
		case measure, tag, value, field:
			size, said, wrong = word(s, at)
		}
		if wrong != expect.None {
			return api.Point{}, wrong
		}
		add(&p, part, said, n)
		at += size
		if part == clock && at == len(s) {
			return p, expect.None
		}
		if at == len(s) || ways[part][s[at]] == "" {
			break
		}
		part = ways[part][s[at]]
	}
	return api.Point{}, at
}

// holds holds One against the model, and against Print.
func holds(t *testing.T, s string) {
	t.Helper()
	want, pos := reads(s)
	if pos != expect.None {
		broken(t, s, pos)
		return
	}
	if p, err := One(s); !same(p, want) || err != nil {
		t.Errorf("%q: %v, %v", s, p, err)
	}
	if text, err := Print(want); text != s || err != nil {
		t.Errorf("%q is printed as %q, %v", s, text, err)
	}
}

// P6.1, P6.4: all texts of few pieces.
func TestShortLines(t *testing.T) {
	var try func(s string, pieces []string, left int)
	try = func(s string, pieces []string, left int) {
		holds(t, s)
		if left == 0 {
			return
		}
		for _, p := range pieces {
			try(s+p, pieces, left-1)
		}
	}
	try("", []string{"a", ",", " ", "=", `\`, "1", "0", "-", "i", "#", "\n"}, 5)
	try("", []string{"m", "m,a=b", ",a", " v=1i", ",w=-2i", " 1", " ", "=", "i", "-"}, 5)
}

// P6.1, P6.4: lines with a byte more, less, or another one.
func TestTurnedLines(t *testing.T) {
	for _, s := range []string{"cpu v=1i 10", `cpu,host=a\ b v=-4i,w=5i 10`, `c\,,a\==b\\,c=d\ \  \\v=0i,\,=10i -1`, "é,é=😀 \xff=9223372036854775807i -9223372036854775808"} {
		holds(t, s)
		for i := range len(s) + 1 {
			holds(t, s[:i])
			holds(t, s[i:])
			for _, b := range []string{"", "a", ",", " ", "=", `\`, "#", "\n", "\xff", "0", "1", "-", "i", ",a=b", " v=1i", `\ `} {
				holds(t, s[:i]+b+s[i:])
				if i < len(s) {
					holds(t, s[:i]+b+s[i+1:])
				}
			}
		}
	}
}

// P6.6
func TestCutLines(t *testing.T) {
	chance := draw()
	for range 500 {
		s, err := Print(somePoint(chance))
		if err != nil {
			t.Fatal(err)
		}
		last := strings.LastIndexByte(s, ' ')
		for cut := range last + 1 {
			if p, err := One(s[:cut]); err == nil {
				t.Fatalf("%q: %v", s[:cut], p)
			}
		}
	}
}

// P3: no list of two answers is one.
func TestReadIsTheCallers(t *testing.T) {
	const s = "cpu,a=b v=1i 1"
	one, _ := One(s)
	two, _ := One(s)
	one.Tags[0].Value, one.Fields[0].N = "x", 5
	if !same(two, point("cpu", []string{"a", "b"}, "v", 1, 1)) {
		t.Errorf("%v", two)
	}
	l, _ := Parse(s + "\n" + s + "\n")
	_ = append(l[0].Tags, api.Tag{Key: "x"})
	_ = append(l[0].Fields, api.Field{Key: "x"})
	l[0].Tags[0].Value, l[0].Fields[0].N = "x", 5
	if !same(l[1], point("cpu", []string{"a", "b"}, "v", 1, 1)) {
		t.Errorf("%v", l[1])
	}
}

// P6.1: numbers about int64's ends.
func TestNumbers(t *testing.T) {
	for _, end := range []string{"9223372036854775807", "-9223372036854775808"} {
		middle, _ := new(big.Int).SetString(end, 10)
		for d := int64(-300); d <= 300; d++ {
			n := new(big.Int).Add(middle, big.NewInt(d)).String()
			holds(t, "m v="+n+"i 1")
			holds(t, "m v=1i "+n)
		}
	}
	for n := range 1200 {
		holds(t, "m v="+strconv.Itoa(n)+"i "+strconv.Itoa(-n))
		holds(t, "m v=-"+strconv.Itoa(n)+"i 0"+strconv.Itoa(n))
	}
}
