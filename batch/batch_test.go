package batch

import (
	"fmt"
	"math"
	"slices"
	"strconv"
	"strings"
	"testing"
	"unicode/utf8"

	"weir/api"
	"weir/expect"
)

// The chapter's examples.
func TestExamples(t *testing.T) {
	p := api.Point{Measure: "cpu", Tags: tags("host", "b", "zone", "z"), Fields: fields("v", "w"), Time: 10}
	want := []api.Write{write("cpu", p.Tags, "v", 10, number(1)), write("cpu", p.Tags, "w", 10, number(2))}
	if l, err := Flat([]api.Point{p}); err != nil || !sameWrites(l, want) {
		t.Errorf("one point: %v, %v", l, err)
	}
	again := p
	again.Fields = []api.Field{{Key: "v", N: 5}}
	want[0].Sample.Value = number(5)
	if l, err := Flat([]api.Point{p, again}); err != nil || !sameWrites(l, want) {
		t.Errorf("the same again: %v, %v", l, err)
	}
	for _, c := range []struct {
		p api.Point
		e api.Errno
	}{
		{api.Point{Measure: "m"}, api.ErrField},
		{api.Point{Measure: "m", Tags: tags("host", "a", "host", "b"), Fields: fields("v")}, api.ErrTags},
		{api.Point{Measure: "m", Fields: fields("time")}, api.ErrField},
		{api.Point{Measure: "m", Fields: fields("v"), Time: api.MaxTime + 1}, api.ErrRange},
	} {
		fails(t, c.p, Right(c.p), c.e, expect.None)
		fails(t, c.p, Check([]api.Point{p, c.p}), c.e, 1)
		l, err := Flat([]api.Point{p, c.p})
		fails(t, c.p, err, c.e, 1)
		if len(l) != 0 {
			t.Errorf("beside an error: %v", l)
		}
	}
}

// letters are n of them, none twice in a row of such texts.
func letters(n, unlike int) string { return strings.Repeat("x", n-2) + fmt.Sprintf("%02d", unlike) }

func manyTags(n int) []api.Tag {
	var l []api.Tag
	for i := range n {
		l = append(l, api.Tag{Key: letters(api.MaxName, n-i), Value: strings.Repeat("y", api.MaxText)})
	}
	return l
}

func manyFields(n int) []api.Field {
	var l []api.Field
	for i := range n {
		l = append(l, api.Field{Key: letters(api.MaxName, n-i), N: math.MinInt64})
	}
	return l
}

// P7.1: points that are right, at the edges of what may be.
func TestRight(t *testing.T) {
	v := fields("v")
	for _, p := range []api.Point{
		{Measure: "m", Fields: v},
		{Measure: "time", Fields: v},
		{Measure: letters(api.MaxName, 0), Fields: v},
		{Measure: "é,= \\", Tags: tags("é,= \\", "é,= \\"), Fields: fields("é,= \\")},
		{Measure: "m", Tags: tags("b", "2", "c", "time", "a", "1"), Fields: v},
		{Measure: "m", Tags: tags("v", "v"), Fields: v},
		{Measure: "m", Tags: []api.Tag{}, Fields: v},
		{Measure: "m", Tags: manyTags(api.MaxTags), Fields: manyFields(api.MaxFields)},
		{Measure: "m", Tags: tags("times", "1", "Time", "2", "tim", "3"), Fields: fields("times", "Time", "tim")},
		{Measure: "m", Fields: fields("w", "v", "u")},
		{Measure: "m", Fields: v, Time: api.MaxTime},
		{Measure: "m", Fields: v, Time: -api.MaxTime},
	} {
		fails(t, p, Right(p), 0, expect.None)
	}
}

// wrongs are points that have one fault each.
func wrongs() map[api.Errno][]api.Point {
	v := fields("v")
	all := map[api.Errno][]api.Point{}
	for _, s := range []string{"", "\n", "a\x7f", "\x00", "a\xff", "\xed\xa0\x80", strings.Repeat("x", api.MaxName+1), strings.Repeat("é", api.MaxName/2) + "x"} {
		all[api.ErrName] = append(all[api.ErrName], api.Point{Measure: s, Fields: v})
		all[api.ErrTags] = append(all[api.ErrTags], api.Point{Measure: "m", Tags: tags("a", "1", s, "x"), Fields: v})
		all[api.ErrField] = append(all[api.ErrField], api.Point{Measure: "m", Fields: fields("v", s)})
	}
	for _, s := range []string{"", "\n", "a\x7f", "a\xff", strings.Repeat("x", api.MaxText+1)} {
		all[api.ErrTags] = append(all[api.ErrTags], api.Point{Measure: "m", Tags: tags("b", s, "a", "1"), Fields: v})
	}
	for _, l := range [][]api.Tag{
		tags("time", "1"), tags("b", "1", "time", "1", "a", "1"),
		tags("a", "1", "a", "1"), tags("a", "1", "b", "2", "a", "3"), tags("a", "", "a", "1"), tags("time", "1", "time", "2"),
		manyTags(api.MaxTags + 1), append(manyTags(api.MaxTags), manyTags(1)...), append(manyTags(api.MaxTags), manyTags(api.MaxTags)...),
	} {
		all[api.ErrTags] = append(all[api.ErrTags], api.Point{Measure: "m", Tags: l, Fields: v})
	}
	for _, l := range [][]api.Field{
		nil, {}, fields("time"), fields("v", "time"), fields("v", "v"), fields("v", "w", "v"), fields("u", "v", "w", "w"),
		manyFields(api.MaxFields + 1), append(manyFields(api.MaxFields), fields("v")...), append(manyFields(5), manyFields(5)...),
	} {
		all[api.ErrField] = append(all[api.ErrField], api.Point{Measure: "m", Fields: l})
	}
	for _, time := range []int64{api.MaxTime + 1, -api.MaxTime - 1, math.MaxInt64, math.MinInt64} {
		all[api.ErrRange] = append(all[api.ErrRange], api.Point{Measure: "m", Fields: v, Time: time})
	}
	return all
}

// P7.1: points that are not right.
func TestWrong(t *testing.T) {
	for e, l := range wrongs() {
		for _, p := range l {
			fails(t, p, Right(p), e, expect.None)
			fails(t, p, Check([]api.Point{p}), e, 0)
		}
	}
}

// P7.1: of several faults the first one that is named is told.
func TestFirstFault(t *testing.T) {
	bad := wrongs()
	for i := range 40 {
		at := func(e api.Errno) api.Point { return bad[e][i%len(bad[e])] }
		p := at(api.ErrRange)
		fails(t, p, Right(p), api.ErrRange, expect.None)
		p.Fields = at(api.ErrField).Fields
		fails(t, p, Right(p), api.ErrField, expect.None)
		p.Tags = at(api.ErrTags).Tags
		fails(t, p, Right(p), api.ErrTags, expect.None)
		p.Measure = at(api.ErrName).Measure
		fails(t, p, Right(p), api.ErrName, expect.None)
	}
}

// isName is the document's word, told anew.
func isName(s string, most int) bool {
	for i := range len(s) {
		if s[i] < 32 || s[i] == 127 {
			return false
		}
	}
	return len(s) >= 1 && len(s) <= most && utf8.ValidString(s)
}

// firstFault is what Right must tell, told anew.
func firstFault(p api.Point) api.Errno {
	if !isName(p.Measure, api.MaxName) {
		return api.ErrName
	}
	seen := map[string]int{}
	for _, tag := range p.Tags {
		seen[tag.Key]++
		if seen[tag.Key] > 1 || tag.Key == "time" || !isName(tag.Key, api.MaxName) || !isName(tag.Value, api.MaxText) {
			return api.ErrTags
		}
	}
	if len(p.Tags) > api.MaxTags {
		return api.ErrTags
	}
	clear(seen)
	for _, f := range p.Fields {
		seen[f.Key]++
		if seen[f.Key] > 1 || f.Key == "time" || !isName(f.Key, api.MaxName) {
			return api.ErrField
		}
	}
	if len(p.Fields) < 1 || len(p.Fields) > api.MaxFields {
		return api.ErrField
	}
	if p.Time > api.MaxTime || p.Time < -api.MaxTime {
		return api.ErrRange
	}
	return 0
}

// P7.1, held against the document's words.
func TestRightOfAny(t *testing.T) {
	chance := draw()
	told := map[api.Errno]int{}
	for range 20000 {
		word := func() string {
			if chance.Intn(25) == 0 {
				return pick(chance, "", "time", "\x1f", "\xff", strings.Repeat("x", api.MaxName+1), strings.Repeat("x", api.MaxText+1))
			}
			return strconv.Itoa(chance.Intn(100))
		}
		p := api.Point{Measure: word(), Time: pick[int64](chance, 0, 5, api.MaxTime, -api.MaxTime, api.MaxTime+1)}
		for range chance.Intn(api.MaxTags + 2) {
			p.Tags = append(p.Tags, api.Tag{Key: word(), Value: word()})
		}
		for range chance.Intn(api.MaxFields/2 + 1) {
			p.Fields = append(p.Fields, api.Field{Key: word(), N: 1})
		}
		e := firstFault(p)
		told[e]++
		fails(t, p, Right(p), e, expect.None)
	}
	for _, e := range []api.Errno{0, api.ErrName, api.ErrTags, api.ErrField, api.ErrRange} {
		if told[e] < 100 {
			t.Errorf("%v came up %d times alone", e, told[e])
		}
	}
}

// P7.1: the first point that is wrong is told, behind the batch's length.
func TestCheck(t *testing.T) {
	fails(t, "none", Check(nil), 0, expect.None)
	fails(t, "empty", Check([]api.Point{}), 0, expect.None)
	right := api.Point{Measure: "m", Fields: fields("v")}
	full := slices.Repeat([]api.Point{right}, api.MaxBatch)
	fails(t, "full", Check(full), 0, expect.None)
	full[api.MaxBatch-1].Time = math.MinInt64
	fails(t, "the last one", Check(full), api.ErrRange, api.MaxBatch-1)
	full[7].Fields = nil
	fails(t, "the first of two", Check(full), api.ErrField, 7)
	full[0].Measure = ""
	fails(t, "the first one", Check(full), api.ErrName, 0)
	long := append(full, right)
	fails(t, "too long", Check(long), api.ErrLong, expect.None)
	l, err := Flat(long)
	fails(t, "too long", err, api.ErrLong, expect.None)
	if len(l) != 0 {
		t.Errorf("beside an error: %v", l)
	}
}

// said is what points say, one by one.
func said(l []api.Point) []api.Write {
	var out []api.Write
	for _, p := range l {
		on := slices.Clone(p.Tags)
		slices.SortFunc(on, func(a, b api.Tag) int { return strings.Compare(a.Key, b.Key) })
		for _, f := range p.Fields {
			out = append(out, write(p.Measure, on, f.Key, p.Time, api.Value{N: f.N}))
		}
	}
	return out
}

// P7.3
func TestFlat(t *testing.T) {
	for _, none := range [][]api.Point{nil, {}} {
		if l, err := Flat(none); len(l) != 0 || err != nil {
			t.Errorf("of none: %v, %v", l, err)
		}
	}
	chance := draw()
	for i := range 2000 {
		l := somePoints(chance, i%50)
		if got, err := Flat(l); err != nil || !sameWrites(got, ordered(said(l))) {
			t.Fatalf("%v: %v, %v", l, got, err)
		}
	}
}

// P7.3: a whole batch of points with all that they may have.
func TestFlatOfFullBatch(t *testing.T) {
	var l []api.Point
	for i := range api.MaxBatch {
		l = append(l, api.Point{Measure: "m", Tags: manyTags(i % (api.MaxTags + 1)), Fields: manyFields(api.MaxFields), Time: int64(-i)})
	}
	got, err := Flat(l)
	if err != nil || len(got) != api.MaxBatch*api.MaxFields {
		t.Fatalf("%d writes, %v", len(got), err)
	}
	for i := 1; i < len(got); i++ {
		if order(got[i-1], got[i]) >= 0 {
			t.Fatalf("%v ahead of %v", got[i-1], got[i])
		}
	}
}

// P3: what is handed in stays as it is, and shares nothing with the answer; nor do two lists of that.
func TestFlatKeepsNothing(t *testing.T) {
	on, allTags := roomy(tags("b", "2", "a", "1"), api.Tag{Key: "room"})
	of, allFields := roomy(fields("w", "v"), api.Field{Key: "room"})
	p := api.Point{Measure: "m", Tags: on, Fields: of, Time: 1}
	l, all := roomy([]api.Point{p, p}, api.Point{Measure: "room"})
	l[1].Time = 0
	got, err := Flat(l)
	if err != nil || len(got) != 4 {
		t.Fatalf("%v, %v", got, err)
	}
	for i, w := range got {
		if !slices.Equal(w.Series.Tags, tags("a", "1", "b", "2")) {
			t.Errorf("number %d: %v", i, w)
		}
		clear(w.Series.Tags[:cap(w.Series.Tags)])
	}
	if allTags[0].Key != "b" || allTags[1].Key != "a" || allTags[2].Key != "room" || allFields[0].Key != "w" || allFields[1].Key != "v" || allFields[2].Key != "room" {
		t.Errorf("handed in: %v, %v", allTags, allFields)
	}
	if all[0].Time != 1 || all[1].Time != 0 || all[2].Measure != "room" {
		t.Errorf("handed in: %v", all)
	}
}

// P3: Right and Check leave a point as it is.
func TestRightKeepsNothing(t *testing.T) {
	p := api.Point{Measure: "m", Tags: tags("c", "3", "b", "2", "a", "1"), Fields: fields("w", "v")}
	fails(t, p, Right(p), 0, expect.None)
	fails(t, p, Check([]api.Point{p}), 0, expect.None)
	if !slices.Equal(p.Tags, tags("c", "3", "b", "2", "a", "1")) || !slices.Equal(p.Fields, fields("w", "v")) {
		t.Errorf("%v", p)
	}
}

// P7.6
func TestMergeOfFlat(t *testing.T) {
	chance := draw()
	for i := range 1000 {
		a, b := somePoints(chance, i%20), somePoints(chance, i%23)
		x, errX := Flat(a)
		y, errY := Flat(b)
		both, err := Flat(slices.Concat(a, b))
		if got := Merge(x, y); err != nil || errX != nil || errY != nil || !sameWrites(got, both) {
			t.Fatalf("%v, %v: %v", a, b, got)
		}
	}
}

// P7.8
func TestFlatInAnyOrder(t *testing.T) {
	chance := draw()
	for i := range 500 {
		var l []api.Point
		for _, p := range somePoints(chance, i%40) {
			if writes := said(append(slices.Clone(l), p)); len(ordered(writes)) == len(writes) {
				l = append(l, p)
			}
		}
		want, err := Flat(l)
		if err != nil {
			t.Fatal(err)
		}
		chance.Shuffle(len(l), func(i, j int) { l[i], l[j] = l[j], l[i] })
		if got, err := Flat(l); err != nil || !sameWrites(got, want) {
			t.Fatalf("%v: %v, %v", l, got, err)
		}
	}
}
