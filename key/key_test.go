package key

import (
	"cmp"
	"slices"
	"strconv"
	"strings"
	"testing"

	"weir/api"
	"weir/expect"
)

// soundTexts may stand anywhere that has room for them.
var soundTexts = []string{
	"a", " ", "  ", "~", "\\", ",", "=", "#", "\"", "0", "-", "Time", "time ", "times", "é", "\u0080", "\u009f", "\u2028", "\ufffd", "\ufeff", "😀", "\U0010ffff",
	"cpu", "a b", "z,=\\", strings.Repeat("x", 64), strings.Repeat("é", 32), strings.Repeat("😀", 16),
}

// wrongTexts may stand nowhere.
var wrongTexts = []string{
	"", "\x00", "\n", "\t", "\r", "\x1f", "\x7f", "a\nb", "a\x00", "\x01a", "a\x7fb", "a\x1f", "é\n",
	"\xff", "\x80", "a\xffb", "\xc3", "a\xc3", "\xc0\x80", "\xc1\xbf", "\xe0\x80\x80", "\xed\xa0\x80", "\xed\xbf\xbf", "\xf4\x90\x80\x80", "\xf0\x9f\x98", "\xa9\xc3",
	strings.Repeat("x", 257), strings.Repeat("é", 129), strings.Repeat("x", 255) + "é", strings.Repeat("x", 1<<20),
}

// texts that have room as values, and none as names.
var longTexts = []string{
	strings.Repeat("x", 65), strings.Repeat("x", 256), strings.Repeat("é", 33), strings.Repeat("é", 128), strings.Repeat("x", 63) + "é", strings.Repeat("😀", 64),
}

// P5.1
func TestNamesAndTexts(t *testing.T) {
	for _, s := range soundTexts {
		fails(t, s, Name(s), 0, expect.None)
		fails(t, s, Text(s), 0, expect.None)
	}
	for _, s := range wrongTexts {
		fails(t, s, Name(s), api.ErrName, expect.None)
		fails(t, s, Text(s), api.ErrText, expect.None)
	}
	for _, s := range longTexts {
		fails(t, s, Name(s), api.ErrName, expect.None)
		fails(t, s, Text(s), 0, expect.None)
	}
	fails(t, "time", Name("time"), 0, expect.None)
	fails(t, "time", Text("time"), 0, expect.None)
}

// P5.1: each byte by itself, and among others.
func TestBytes(t *testing.T) {
	for b := range 256 {
		for _, s := range []string{string([]byte{byte(b)}), string([]byte{'a', byte(b)}), string([]byte{byte(b), 'a'}), string([]byte{'a', byte(b), 'a'})} {
			name, text := api.ErrName, api.ErrText
			if b >= 32 && b < 127 {
				name, text = 0, 0
			}
			fails(t, s, Name(s), name, expect.None)
			fails(t, s, Text(s), text, expect.None)
		}
	}
}

// many are n tags in order.
func many(n int) []api.Tag {
	var l []api.Tag
	for i := range n {
		l = append(l, api.Tag{Key: "k" + strconv.Itoa(100000+i), Value: "v"})
	}
	return l
}

// P5.1
func TestRightTags(t *testing.T) {
	for _, l := range [][]api.Tag{
		nil, {}, tags("a", "b"), tags("a", "1", "b", "1"), tags("a", "2", "b", "1"), tags("a", "x", "aa", "x"), tags("B", "x", "a", "x"), tags("z", "x", "é", "x"),
		tags(" ", "x", "a", "x"), tags("Time", "time", "times", "time"), tags("a", "x", "a b", "x"), tags("a,", "x", "a=", "x"), many(api.MaxTags),
	} {
		fails(t, l, Tags(l), 0, expect.None)
	}
	for _, s := range soundTexts {
		fails(t, s, Tags(tags(s, s)), 0, expect.None)
	}
	for _, s := range longTexts {
		fails(t, s, Tags(tags("a", s)), 0, expect.None)
	}
}

// P5.1
func TestWrongTags(t *testing.T) {
	all := [][]api.Tag{
		{{}}, tags("", "x"), tags("x", ""), tags("time", "x"), tags("a", "x", "a", "x"), tags("a", "x", "a", "y"), tags("b", "x", "a", "x"), tags("aa", "x", "a", "x"),
		tags("a", "x", "b", "x", "b", "y"), tags("a", "x", "c", "x", "b", "x"), tags("a", "x", "b", "x", "a", "x"), tags("a", "x", "time", "x", "z", "x"), tags("a", "x", "B", "x"),
		tags("a", "x", "b", ""), tags("a", "", "b", "x"), tags("a", "x", "b\n", "x"), many(api.MaxTags + 1), many(1000),
		append(many(api.MaxTags-1), tags("a", "x")...), append(many(api.MaxTags-1), tags("x", "")...), append(many(api.MaxTags-1), tags("time", "v")...),
	}
	for _, s := range wrongTexts {
		all = append(all, tags(s, "x"), tags("x", s), tags(s, s), tags("x", "y", "z", s))
	}
	for _, s := range longTexts {
		all = append(all, tags(s, "x"))
	}
	for _, l := range all {
		fails(t, l, Tags(l), api.ErrTags, expect.None)
	}
}

// P5.1: the first that applies.
func TestRight(t *testing.T) {
	for _, s := range []api.Series{series("cpu", "v"), series("cpu", "host", "a", "v"), series("time", "times", "time", "Time"), series(",", " ", "=", "\\"), series("v", "v", "v", "v")} {
		fails(t, s, Right(s), 0, expect.None)
	}
	for _, s := range soundTexts {
		fails(t, s, Right(series(s, s, s, s)), 0, expect.None)
	}
	for _, bad := range append(slices.Clone(wrongTexts), longTexts...) {
		fails(t, bad, Right(series(bad, "v")), api.ErrName, expect.None)
		fails(t, bad, Right(series("cpu", bad)), api.ErrName, expect.None)
		fails(t, bad, Right(series("cpu", bad, "x", "v")), api.ErrTags, expect.None)
		fails(t, bad, Right(series(bad, bad, "x", bad)), api.ErrName, expect.None)
		fails(t, bad, Right(series("cpu", bad, "x", bad)), api.ErrTags, expect.None)
	}
	fails(t, "field time", Right(series("cpu", "time")), api.ErrName, expect.None)
	fails(t, "tag and field time", Right(series("cpu", "time", "x", "time")), api.ErrTags, expect.None)
	fails(t, "tags that fall", Right(series("cpu", "b", "x", "a", "x", "v")), api.ErrTags, expect.None)
	fails(t, "nothing", Right(api.Series{}), api.ErrName, expect.None)
}

// flat is a series as a row of texts that stand as the series do: the end of the tags is less than one more of them.
func flat(s api.Series) []string {
	out := []string{s.Measure}
	for _, tag := range s.Tags {
		out = append(out, "1", tag.Key, tag.Value)
	}
	return append(out, "0", s.Field)
}

// fewSeries are all of few texts, right and not.
func fewSeries() []api.Series {
	words := []string{"", "a", "ab", "b"}
	lists := [][]api.Tag{nil, {}}
	for _, k := range words {
		for _, v := range words {
			lists = append(lists, tags(k, v), tags(k, v, "a", "b"), tags("a", "b", k, v), tags("a", "b", "a", "b", k, v))
		}
	}
	var all []api.Series
	for _, m := range words[1:] {
		for _, f := range words[:3] {
			for _, l := range lists {
				all = append(all, api.Series{Measure: m, Tags: l, Field: f})
			}
		}
	}
	return all
}

// P5.3, P5.8
func TestCompare(t *testing.T) {
	all := fewSeries()
	for _, a := range all {
		for _, b := range all {
			got := Compare(a, b)
			if want := slices.Compare(flat(a), flat(b)); got != want {
				t.Fatalf("%q, %q: %d", a, b, got)
			}
			if got != -Compare(b, a) || (got == 0) != sameSeries(a, b) {
				t.Fatalf("%q, %q: no order", a, b)
			}
		}
	}
	sorted := slices.SortedFunc(slices.Values(all), Compare)
	for i, a := range sorted {
		for _, b := range sorted[i:] {
			if Compare(a, b) > 0 {
				t.Fatalf("%q, %q: no order", a, b)
			}
		}
	}
}

// P5.3: by bytes, and not as the keys are printed.
func TestCompareBytes(t *testing.T) {
	rising := []api.Series{
		series("", ""), series("A", "v"), series("B", "a", "b", "v"), series("a", "v"), series("a", "w"), series("a", "A", "z", "a"), series("a", "a", "1", "z"),
		series("a", "a", "1", "b", "1", "a"), series("a", "a", "10", "v"), series("a", "a", "2", "v"), series("a", "a\x00", "0", "v"), series("a", "aa", "0", "v"),
		series("a", "b", "0", "v"), series("a\x00", "v"), series("a ", "v"), series("a,", "v"), series("aa", "v"), series("a~", "v"), series("a\x80", "v"), series("aé", "v"), series("a\xff", "v"),
	}
	for i, a := range rising {
		for k, b := range rising {
			if got := Compare(a, b); got != cmp.Compare(i, k) {
				t.Errorf("%q, %q: %d", a, b, got)
			}
		}
	}
}
