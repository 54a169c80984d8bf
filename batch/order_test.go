package batch

import (
	"math"
	"slices"
	"strconv"
	"testing"

	"weir/api"
)

// P7.2: rising, each one ahead of those behind it.
func TestCompare(t *testing.T) {
	v := number(1)
	rising := []api.Write{
		write("", nil, "", math.MinInt64, v),
		write("", nil, "", 0, v),
		write("", nil, "v", -1, v),
		write("cpu", nil, "v", math.MinInt64, v),
		write("cpu", nil, "v", -1, v),
		write("cpu", nil, "v", 0, v),
		write("cpu", nil, "v", math.MaxInt64, v),
		write("cpu", nil, "w", math.MinInt64, v),
		write("cpu", tags("a", "1"), "v", 5, v),
		write("cpu", tags("a", "1"), "w", 4, v),
		write("cpu", tags("a", "1", "b", "2"), "v", 3, v),
		write("cpu", tags("a", "2"), "u", 2, v),
		write("cpu", tags("b", "1"), "t", 1, v),
		write("cpv", nil, "", 0, v),
		write("\xff", nil, "", 0, v),
	}
	for i, a := range rising {
		for j, b := range rising {
			b.Sample.Value = api.Value{Kind: api.ValueKind(j)}
			want := 0
			if i < j {
				want = -1
			} else if i > j {
				want = 1
			}
			if got := Compare(a, b); got != want {
				t.Errorf("%v, %v: %d", a, b, got)
			}
		}
	}
	if Compare(write("m", nil, "v", 0, v), write("m", []api.Tag{}, "v", 0, number(9))) != 0 {
		t.Error("no tags are no tags")
	}
}

// P7.2, P7.7
func TestOrder(t *testing.T) {
	chance := draw()
	for i := range 3000 {
		l := someWrites(chance, i%80)
		got := Order(l)
		if !sameWrites(got, ordered(l)) {
			t.Fatalf("%v: %v", l, got)
		}
		if again := Order(got); !sameWrites(again, got) {
			t.Fatalf("of itself: %v: %v", got, again)
		}
	}
	if len(Order(nil)) != 0 || len(Order([]api.Write{})) != 0 {
		t.Error("of none")
	}
}

// P7.2, P7.7
func TestMerge(t *testing.T) {
	chance := draw()
	for i := range 1000 {
		old, now := someWrites(chance, i%40), someWrites(chance, i%37)
		got := Merge(old, now)
		if !sameWrites(got, ordered(slices.Concat(old, now))) {
			t.Fatalf("%v, %v: %v", old, now, got)
		}
		if !sameWrites(got, Merge(Order(old), Order(now))) {
			t.Fatalf("%v, %v: of both in order another one", old, now)
		}
	}
	one := []api.Write{write("m", nil, "v", 1, number(1))}
	if l := Merge(nil, one); !sameWrites(l, one) {
		t.Errorf("over none: %v", l)
	}
	if l := Merge(one, nil); !sameWrites(l, one) {
		t.Errorf("none: %v", l)
	}
	if l := Merge(nil, nil); len(l) != 0 {
		t.Errorf("none over none: %v", l)
	}
	if l := Merge(one, []api.Write{write("m", nil, "v", 1, api.Value{Kind: api.Void})}); len(l) != 1 || l[0].Sample.Value.Kind != api.Void {
		t.Errorf("a mark over a number: %v", l)
	}
}

// Many writes are put into order in a while, however they stand.
func TestOrderOfMany(t *testing.T) {
	const n = 100000
	for what, place := range map[string]func(i int) int{
		"rising":  func(i int) int { return i },
		"falling": func(i int) int { return n - i },
		"alike":   func(int) int { return 0 },
		"saw":     func(i int) int { return i % 1000 },
		"mixed":   func(i int) int { return i * 7919 % n },
		"turned":  func(i int) int { return i ^ 1 },
	} {
		l := make([]api.Write, n)
		last := map[int64]int64{}
		for i := range l {
			time := int64(place(i))
			l[i] = write("m", nil, "v", time, number(int64(i)))
			last[time] = int64(i)
		}
		got := Order(l)
		for i, w := range got {
			if i > 0 && got[i-1].Sample.Time >= w.Sample.Time || last[w.Sample.Time] != w.Sample.Value.N {
				t.Fatalf("%s: number %d: %v", what, i, w)
			}
		}
		if len(got) != len(last) {
			t.Errorf("%s: %d of %d", what, len(got), len(last))
		}
	}
}

// P3: what is handed in stays as it is, and shares nothing with the answer; nor do two lists of that.
func TestOrderKeepsNothing(t *testing.T) {
	on, allTags := roomy(tags("a", "1"), api.Tag{Key: "room"})
	l, all := roomy([]api.Write{write("m", on, "w", 0, number(1)), write("m", on, "v", 0, number(2))}, write("room", nil, "", 0, number(0)))
	for _, got := range [][]api.Write{Order(l), Merge(l, nil), Merge(nil, l), Merge(l[:1], l[1:])} {
		if len(got) != 2 || got[0].Series.Field != "v" {
			t.Fatalf("%v", got)
		}
		clear(got[0].Series.Tags[:cap(got[0].Series.Tags)])
		if !slices.Equal(got[1].Series.Tags, tags("a", "1")) {
			t.Errorf("two lists of one answer: %v", got[1])
		}
		clear(got[1].Series.Tags[:cap(got[1].Series.Tags)])
		clear(got[:cap(got)])
	}
	l[0].Sample.Time = 1
	got := Points(l)
	for _, p := range got {
		if !slices.Equal(p.Tags, tags("a", "1")) || len(p.Fields) != 1 || p.Fields[0].N == 0 {
			t.Errorf("two lists of one answer: %v", got)
		}
		clear(p.Tags[:cap(p.Tags)])
		clear(p.Fields[:cap(p.Fields)])
	}
	if allTags[0].Key != "a" || allTags[1].Key != "room" || all[0].Series.Field != "w" || all[1].Series.Field != "v" || all[2].Series.Measure != "room" {
		t.Errorf("handed in: %v, %v", allTags, all)
	}
}

// points is Points, told by looking for the point of each write that is left.
func points(l []api.Write) []api.Point {
	var out []api.Point
	for _, w := range ordered(l) {
		if w.Sample.Value.Kind != 0 {
			continue
		}
		f := api.Field{Key: w.Series.Field, N: w.Sample.Value.N}
		p := api.Point{Measure: w.Series.Measure, Tags: w.Series.Tags, Fields: []api.Field{f}, Time: w.Sample.Time}
		at, there := slices.BinarySearchFunc(out, p, func(a, b api.Point) int {
			return order(write(a.Measure, a.Tags, "", a.Time, number(0)), write(b.Measure, b.Tags, "", b.Time, number(0)))
		})
		if there {
			out[at].Fields = append(out[at].Fields, f)
		} else {
			out = slices.Insert(out, at, p)
		}
	}
	return out
}

// P7.4
func TestPoints(t *testing.T) {
	chance := draw()
	for i := range 3000 {
		l := someWrites(chance, i%80)
		if got := Points(l); !slices.EqualFunc(got, points(l), samePoint) {
			t.Fatalf("%v: %v", l, got)
		}
	}
	if len(Points(nil)) != 0 || len(Points([]api.Write{})) != 0 {
		t.Error("of none")
	}
}

// P7.4: the fields of a point stand together, the points by tags ahead of times, whatever the order of the writes.
func TestPointsOfFew(t *testing.T) {
	a, b := tags("h", "a"), tags("h", "b")
	l := []api.Write{
		write("m", b, "w", 1, number(1)), write("m", a, "w", 2, number(2)), write("m", a, "v", 2, number(3)),
		write("m", a, "w", 1, number(4)), write("l", b, "w", 9, number(5)), write("m", a, "v", 2, number(6)),
	}
	want := []api.Point{
		{Measure: "l", Tags: b, Fields: []api.Field{{Key: "w", N: 5}}, Time: 9},
		{Measure: "m", Tags: a, Fields: []api.Field{{Key: "w", N: 4}}, Time: 1},
		{Measure: "m", Tags: a, Fields: []api.Field{{Key: "v", N: 6}, {Key: "w", N: 2}}, Time: 2},
		{Measure: "m", Tags: b, Fields: []api.Field{{Key: "w", N: 1}}, Time: 1},
	}
	if got := Points(l); !slices.EqualFunc(got, want, samePoint) {
		t.Errorf("%v", got)
	}
}

// P7.4: a mark is no field, and hides the number that it was written over.
func TestPointsOfMarks(t *testing.T) {
	for _, kind := range []api.ValueKind{api.Over, api.Void, 3, 255} {
		mark := api.Value{Kind: kind, N: 1}
		l := []api.Write{
			write("m", nil, "v", 0, number(1)), write("m", nil, "v", 0, mark), write("m", nil, "w", 0, mark),
			write("m", nil, "w", 1, mark), write("m", nil, "w", 1, number(2)), write("m", nil, "v", 1, mark),
		}
		want := []api.Point{{Measure: "m", Fields: []api.Field{{Key: "w", N: 2}}, Time: 1}}
		if got := Points(l); !slices.EqualFunc(got, want, samePoint) {
			t.Errorf("%v: %v", kind, got)
		}
	}
}

// P7.4: a point has all its fields, more than are right, too.
func TestPointsOfManyFields(t *testing.T) {
	var l []api.Write
	for i := range 1000 {
		l = append(l, write("m", nil, strconv.Itoa(i), 5, number(int64(i))))
	}
	got := Points(l)
	if len(got) != 1 || len(got[0].Fields) != 1000 {
		t.Fatalf("%v", got)
	}
	for i, f := range got[0].Fields {
		if strconv.FormatInt(f.N, 10) != f.Key || i > 0 && got[0].Fields[i-1].Key >= f.Key {
			t.Errorf("number %d: %v", i, f)
		}
	}
}

// P7.5
func TestFlatOfPoints(t *testing.T) {
	chance := draw()
	for i := range 1000 {
		l, err := Flat(somePoints(chance, i%50))
		if err != nil {
			t.Fatal(err)
		}
		if again, err := Flat(Points(l)); err != nil || !sameWrites(again, l) {
			t.Fatalf("%v: %v, %v", l, again, err)
		}
	}
}
