package key

import (
	"maps"
	"slices"
	"strconv"
	"testing"

	"weir/api"
)

// The chapter's second example.
func TestTagsExamples(t *testing.T) {
	if l := Sort(tags("b", "1", "a", "2", "b", "3")); !slices.Equal(l, tags("a", "2", "b", "3")) {
		t.Errorf("Sort: %q", l)
	}
	if l := Group(tags("host", "a"), []string{"zone", "host"}); !slices.Equal(l, []string{"", "a"}) {
		t.Errorf("Group: %q", l)
	}
	if l := Join([]string{"zone", "host"}, []string{"", "a"}); !slices.Equal(l, tags("host", "a")) {
		t.Errorf("Join: %q", l)
	}
}

// sorted is Sort, told by a map.
func sorted(l []api.Tag) []api.Tag {
	last := map[string]string{}
	for _, tag := range l {
		last[tag.Key] = tag.Value
	}
	var out []api.Tag
	for _, k := range slices.Sorted(maps.Keys(last)) {
		out = append(out, api.Tag{Key: k, Value: last[k]})
	}
	return out
}

// someTags draws tags of few keys, right and not, whose values are all unlike.
func someTags(n int, key func(int) int) []api.Tag {
	keys := []string{"", "a", "aa", "b", "B", "time", "\xff", "é", "\n", "zone"}
	var l []api.Tag
	for i := range n {
		l = append(l, api.Tag{Key: keys[key(len(keys))], Value: "v" + strconv.Itoa(i)})
	}
	return l
}

// P5.2
func TestSort(t *testing.T) {
	chance := draw()
	for i := range 3000 {
		l := someTags(i%60, chance.Intn)
		if got := Sort(l); !slices.Equal(got, sorted(l)) {
			t.Fatalf("%q: %q", l, got)
		}
	}
	if len(Sort(nil)) != 0 || len(Sort([]api.Tag{})) != 0 {
		t.Error("Sort of nothing")
	}
	if l := Sort(tags("a", "1", "a", "")); !slices.Equal(l, tags("a", "")) {
		t.Errorf("the last one is empty: %q", l)
	}
}

// P5.2
func TestValueAndGroup(t *testing.T) {
	l := tags("b", "1", "a", "2", "b", "3", "", "4", "e", "", "e", "5", "time", "6", "\xff", "7")
	names := []string{"a", "b", "c", "", "e", "time", "\xff", "A", "b", "a ", "1"}
	want := []string{"2", "1", "", "4", "", "6", "7", "", "1", "", ""}
	for i, name := range names {
		if got := Value(l, name); got != want[i] {
			t.Errorf("Value of %q: %q", name, got)
		}
		if got := Value(nil, name); got != "" {
			t.Errorf("Value of none: %q", got)
		}
	}
	if got := Group(l, names); !slices.Equal(got, want) {
		t.Errorf("Group: %q", got)
	}
	if got := Group(nil, names); !slices.Equal(got, make([]string, len(names))) {
		t.Errorf("Group of none: %q", got)
	}
	if got := Group(l, nil); len(got) != 0 {
		t.Errorf("Group by nothing: %q", got)
	}
}

// P5.2
func TestJoin(t *testing.T) {
	for _, c := range []struct {
		names, values []string
		want          []api.Tag
	}{
		{nil, nil, nil},
		{[]string{"a"}, nil, nil},
		{nil, []string{"1"}, nil},
		{[]string{}, []string{""}, nil},
		{[]string{"a"}, []string{""}, nil},
		{[]string{"a", "b"}, []string{"1"}, tags("a", "1")},
		{[]string{"a"}, []string{"1", "2"}, tags("a", "1")},
		{[]string{"b", "a"}, []string{"1", "2"}, tags("a", "2", "b", "1")},
		{[]string{"a", "a"}, []string{"1", "2"}, tags("a", "2")},
		{[]string{"a", "a"}, []string{"1", ""}, tags("a", "1")},
		{[]string{"a", "a"}, []string{"", "2"}, tags("a", "2")},
		{[]string{"a", "b", "a"}, []string{"1", "2", "3"}, tags("a", "3", "b", "2")},
		{[]string{"", "time", "\xff"}, []string{"\n", "x", "\xff"}, tags("", "\n", "time", "x", "\xff", "\xff")},
	} {
		if got := Join(c.names, c.values); !slices.Equal(got, c.want) {
			t.Errorf("%q, %q: %q", c.names, c.values, got)
		}
	}
}

// P5.9
func TestJoinOfGroup(t *testing.T) {
	chance := draw()
	for i := range 3000 {
		l := someTags(i%12, chance.Intn)
		for k := range l {
			if chance.Intn(4) == 0 {
				l[k].Value = ""
			}
		}
		names := []string{"a", "b", "c", "", "time", "\xff", "zone", "zones"}
		chance.Shuffle(len(names), func(a, b int) { names[a], names[b] = names[b], names[a] })
		names = names[:chance.Intn(len(names)+1)]
		values := Group(l, names)
		joined := Join(names, values)
		if !slices.Equal(Group(joined, names), values) {
			t.Fatalf("%q by %q: %q", l, names, joined)
		}
		for _, tag := range joined {
			if !slices.Contains(names, tag.Key) || tag.Value == "" {
				t.Fatalf("%q by %q: %q", l, names, joined)
			}
		}
	}
}

// P3: what is handed in stays, what is answered is the caller's.
func TestTagsAreTheCallers(t *testing.T) {
	list, all := roomy(tags("b", "1", "a", "2", "b", "3"))
	kept := slices.Clone(all)
	got := Sort(list)
	got[0].Value = "x"
	_ = append(got, tags("y", "y", "z", "z")...)
	names := append(make([]string, 0, 8), "b", "a")
	values := Group(list, names)
	values[0] = "x"
	_ = append(values, "y")
	joined := Join(names, values)
	joined[0].Value = "z"
	if !slices.Equal(all, kept) || !slices.Equal(names[:8], []string{"b", "a", "", "", "", "", "", ""}) || !slices.Equal(values, []string{"x", "2"}) {
		t.Errorf("changed: %q, %q, %q", all, names[:8], values)
	}
	in := tags("a", "1")
	Sort(in)[0].Key = "x"
	if in[0].Key != "a" {
		t.Error("what Sort answers lies in what was handed in")
	}
}
