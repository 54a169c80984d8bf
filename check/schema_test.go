package check

import (
	"reflect"
	"regexp"
	"slices"
	"strings"
	"testing"

	"weir/api"
	"weir/lex"
	"weir/sample"
)

// someSchema draws a right schema.
func someSchema(d sample.Draw) []api.Table {
	names := func(least, most int) []string {
		seen := map[string]bool{}
		var l []string
		for n := least + d(most-least+1); len(l) < n; {
			if s := sample.One(d, d.Name(), "TAGS", "FIELDS", "TABLE", ",", d.Name()+"x"); !seen[s] && isName(s) {
				seen[s] = true
				l = append(l, s)
			}
		}
		return l
	}
	var l []api.Table
	for _, measure := range names(0, 5) {
		l = append(l, api.Table{Measure: sample.One(d, measure, strings.ToUpper(measure)), Tags: names(0, sample.One(d, 0, 3, 8)), Fields: names(1, sample.One(d, 1, 3, 16))})
	}
	l = slices.DeleteFunc(l, func(t api.Table) bool { return !isName(t.Measure) })
	slices.SortFunc(l, func(a, b api.Table) int { return strings.Compare(a.Measure, b.Measure) })
	l = slices.CompactFunc(l, func(a, b api.Table) bool { return a.Measure == b.Measure })
	for i := range l {
		j := d(i + 1)
		l[i], l[j] = l[j], l[i]
	}
	return l
}

// schemaText is a schema's text as the chapter tells it.
func schemaText(l []api.Table) string {
	all := ""
	for _, t := range l {
		parts := []string{"TABLE", lex.Quote(t.Measure)}
		for _, list := range []struct {
			word  string
			names []string
		}{{"TAGS", t.Tags}, {"FIELDS", t.Fields}} {
			var names []string
			for _, s := range list.names {
				names = append(names, lex.Quote(s))
			}
			if len(names) > 0 {
				parts = append(parts, list.word, strings.Join(names, ", "))
			}
		}
		all += strings.Join(parts, " ") + "\n"
	}
	return all
}

// schemaWrong is what P15.1 tells of a schema, told anew.
func schemaWrong(l []api.Table) told {
	if len(l) > 64 {
		return plainly(api.ErrLong)
	}
	twice := func(names []string) bool {
		seen := map[string]int{}
		for _, s := range names {
			seen[s]++
		}
		return len(seen) < len(names)
	}
	odd := func(names []string) bool {
		for _, s := range names {
			if !isName(s) || s == "time" {
				return true
			}
		}
		return false
	}
	measures := map[string]int{}
	for i, t := range l {
		measures[t.Measure]++
		for _, c := range []struct {
			wrong bool
			e     api.Errno
		}{
			{!isName(t.Measure), api.ErrName}, {measures[t.Measure] > 1, api.ErrTwice}, {len(t.Tags) > 8 || len(t.Fields) > 16, api.ErrLong},
			{odd(t.Tags), api.ErrName}, {twice(t.Tags), api.ErrTwice}, {len(t.Fields) == 0, api.ErrField}, {odd(t.Fields), api.ErrName}, {twice(t.Fields), api.ErrTwice},
		} {
			if c.wrong {
				return in(i, c.e)
			}
		}
	}
	return right()
}

// P15.1: each thing that may be wrong with a table, at each place, and of several the one that is named first.
func TestSchemaFlaws(t *testing.T) {
	type flaw func(l []api.Table, i int)
	var flaws []flaw
	for _, s := range badNames() {
		flaws = append(flaws, func(l []api.Table, i int) { l[i].Measure = s })
	}
	for _, s := range badColumns() {
		flaws = append(flaws, func(l []api.Table, i int) { l[i].Tags = append(l[i].Tags, s) }, func(l []api.Table, i int) { l[i].Fields = append(l[i].Fields, s) })
	}
	flaws = append(flaws,
		func(l []api.Table, i int) { l[i].Measure = "cpu" },
		func(l []api.Table, i int) { l[i].Tags = append(l[i].Tags, many(9)...) },
		func(l []api.Table, i int) { l[i].Tags = many(8) },
		func(l []api.Table, i int) { l[i].Fields = append(l[i].Fields, many(17)...) },
		func(l []api.Table, i int) { l[i].Fields = many(16) },
		func(l []api.Table, i int) { l[i].Tags = append(l[i].Tags, "a", "zone", "a") },
		func(l []api.Table, i int) { l[i].Fields = append(l[i].Fields, "b", "c", "b") },
		func(l []api.Table, i int) { l[i].Fields = nil },
		func(l []api.Table, i int) { l[i].Fields = []string{} },
		func(l []api.Table, i int) { l[i].Measure = "time" },
		func(l []api.Table, i int) { l[i].Fields = []string{"v", "host", "TIME"} },
	)
	seen := map[told]int{}
	for i := range 2 {
		for j := range 2 {
			for _, one := range flaws {
				for _, other := range flaws {
					l := cpu()
					one(l, i)
					other(l, j)
					want := schemaWrong(l)
					seen[want]++
					fails(t, l, Schema(l), want)
					s, err := Print(l)
					fails(t, l, err, want)
					if want.e != 0 && s != "" || want.e == 0 && s != schemaText(l) {
						t.Errorf("%v: %q", l, s)
					}
				}
			}
		}
	}
	for i := range 2 {
		for _, e := range []api.Errno{api.ErrName, api.ErrTwice, api.ErrLong, api.ErrField} {
			if seen[in(i, e)] == 0 && (i != 0 || e != api.ErrTwice) {
				t.Errorf("%v of %d was never asked", e, i)
			}
		}
	}
}

// P15.1: how many tables there may be, ahead of all that may be wrong with one.
func TestManyTables(t *testing.T) {
	var l []api.Table
	for _, s := range many(64) {
		l = append(l, api.Table{Measure: s, Fields: []string{"v"}})
	}
	fails(t, "64", Schema(l), right())
	text, err := Print(l)
	fails(t, "64", err, right())
	if again, err := Parse(text); err != nil || !reflect.DeepEqual(again, l) {
		t.Errorf("%v, %v", again, err)
	}
	more := append(l, api.Table{Measure: "more", Fields: []string{"v"}})
	fails(t, "65", Schema(more), plainly(api.ErrLong))
	fails(t, "65 nothings", Schema(make([]api.Table, 65)), plainly(api.ErrLong))
	if l, err := Parse(text + "TABLE more FIELDS v\n"); l != nil {
		t.Errorf("%v, %v", l, err)
	} else {
		fails(t, "65", err, plainly(api.ErrSchema))
	}
	fails(t, "none", Schema(nil), right())
}

// P15.1, P15.4: right schemas come back from their texts.
func TestPrintParse(t *testing.T) {
	d := draw()
	for range 5000 {
		l := someSchema(d)
		fails(t, l, Schema(l), schemaWrong(l))
		s, err := Print(l)
		fails(t, l, err, right())
		if s != schemaText(l) {
			t.Fatalf("%q, not %q", s, schemaText(l))
		}
		again, err := Parse(s)
		fails(t, s, err, right())
		if schemaText(again) != s || len(again) != len(l) {
			t.Fatalf("%v of %q", again, s)
		}
		for i := range l {
			if again[i].Measure != l[i].Measure || !slices.Equal(again[i].Tags, l[i].Tags) || !slices.Equal(again[i].Fields, l[i].Fields) {
				t.Fatalf("%v, not %v", again[i], l[i])
			}
		}
	}
}

const (
	onePattern  = `([A-Za-z_][A-Za-z_0-9]*|"(?:[^"\\]|\\["\\])*")`
	rowPattern  = onePattern + `(?:, ` + onePattern + `)*`
	linePattern = `^TABLE ` + onePattern + `( TAGS ` + rowPattern + `)? FIELDS (` + rowPattern + `)\n`
)

// taken is what a text says, told anew by patterns: false, if it is no schema's text.
func taken(s string) ([]api.Table, bool) {
	line, one := regexp.MustCompile(linePattern), regexp.MustCompile(onePattern)
	names := func(s string) []string {
		var l []string
		for _, name := range one.FindAllString(s, -1) {
			if name[0] == '"' {
				name = strings.NewReplacer(`\"`, `"`, `\\`, `\`).Replace(name[1 : len(name)-1])
			}
			l = append(l, name)
		}
		return l
	}
	var l []api.Table
	for rest := s; rest != ""; {
		m := line.FindStringSubmatch(rest)
		if m == nil {
			return nil, false
		}
		l = append(l, api.Table{Measure: names(m[1])[0], Tags: names(strings.TrimPrefix(m[2], " TAGS ")), Fields: names(m[5])})
		rest = rest[len(m[0]):]
	}
	return l, schemaWrong(l).e == 0 && schemaText(l) == s
}

// parses holds Parse of a text against the patterns.
func parses(t *testing.T, s string) bool {
	t.Helper()
	want, ok := taken(s)
	l, err := Parse(s)
	if !ok {
		fails(t, s, err, plainly(api.ErrSchema))
		if len(l) > 0 {
			t.Fatalf("%q: %v beside an error", s, l)
		}
		return false
	}
	fails(t, s, err, right())
	if !reflect.DeepEqual(l, want) {
		t.Fatalf("%q: %v, not %v", s, l, want)
	}
	if again, err := Print(l); again != s || err != nil {
		t.Fatalf("%q, not %q: %v", again, s, err)
	}
	return true
}

// P15.1, P15.4: texts that are nearly a schema's.
func TestTurnedTexts(t *testing.T) {
	d := draw()
	pieces := []string{"", " ", "\n", ",", ", ", "\"", "\\", "a", "TABLE", "TAGS ", " FIELDS ", "time", "v", "0", "\t", "'", "é", "\xff", "TABLE x FIELDS y\n"}
	took := 0
	for range 40000 {
		s := schemaText(someSchema(d))
		for range 1 + d(2) {
			from := d(len(s) + 1)
			to := min(len(s), from+d(4))
			s = s[:from] + sample.One(d, pieces...) + s[to:]
		}
		if parses(t, s) {
			took++
		}
	}
	if took < 1000 {
		t.Errorf("%d texts were taken", took)
	}
}

// P15.1: the edges that the words name, and texts that are no schema's.
func TestParse(t *testing.T) {
	for s, want := range map[string]bool{
		"": true,
		"TABLE cpu TAGS host, zone FIELDS v, w\n":  true,
		"TABLE cpu FIELDS v\n":                     true,
		"TABLE TAGS TAGS FIELDS FIELDS TABLE\n":    true,
		"TABLE TAGS FIELDS FIELDS\n":               true,
		"TABLE \"time\" FIELDS \",\"\n":            true,
		"TABLE cpu FIELDS v\nTABLE mem FIELDS v\n": true,
		"TABLE time FIELDS v\n":                    false,
		"TABLE cpu FIELDS \"time\"\n":              false,
		"TABLE cpu TAGS \"time\" FIELDS v\n":       false,
		"TABLE \"cpu\" FIELDS v\n":                 false,
		"TABLE cpu FIELDS v":                       false,
		"TABLE cpu FIELDS v\r\n":                   false,
		"TABLE cpu FIELDS v\n\n":                   false,
		"\nTABLE cpu FIELDS v\n":                   false,
		"\n":                                       false,
		" ":                                        false,
		"table cpu FIELDS v\n":                     false,
		"TABLE cpu fields v\n":                     false,
		"TABLE cpu tags a FIELDS v\n":              false,
		"\"TABLE\" cpu FIELDS v\n":                 false,
		"TABLE cpu FIELDS v,w\n":                   false,
		"TABLE cpu FIELDS v , w\n":                 false,
		"TABLE cpu FIELDS v,  w\n":                 false,
		"TABLE cpu FIELDS v; w\n":                  false,
		"TABLE cpu FIELDS v \",\" w\n":             false,
		"TABLE cpu FIELDS v + w\n":                 false,
		"TABLE cpu FIELDS v, v\n":                  false,
		"TABLE cpu FIELDS v,\n":                    false,
		"TABLE cpu FIELDS\n":                       false,
		"TABLE cpu TAGS a\n":                       false,
		"TABLE cpu TAGS FIELDS v\n":                false,
		"TABLE cpu\n":                              false,
		"TABLE\n":                                  false,
		"TABLE cpu FIELDS 5\n":                     false,
		"TABLE cpu FIELDS 'v'\n":                   false,
		"TABLE cpu FIELDS v TAGS a\n":              false,
		"TABLE cpu FIELDS v FIELDS w\n":            false,
		"TABLE cpu FIELDS \"v\n":                   false,
		"TABLE cpu FIELDS \"v\\x\"\n":              false,
		"TABLE cpu FIELDS v $\n":                   false,
		"TABLE cpu FIELDS v\nTABLE cpu FIELDS v\n": false,
		"TABLE cpu FIELDS v TABLE mem FIELDS v\n":  false,
	} {
		if got := parses(t, s); got != want {
			t.Errorf("%q: %v", s, got)
		}
	}
	for n, want := range map[int]bool{16: true, 17: false, 18: false, 100000: false} {
		row := make([]string, n)
		for i := range row {
			row[i] = strings.Repeat("n", 1+i%60)
		}
		if l, err := Parse("TABLE cpu FIELDS " + strings.Join(row, ", ") + "\n"); (err == nil) != want || want && len(l[0].Fields) != n {
			t.Errorf("%d fields: %v", n, err)
		}
	}
	if _, err := Parse(strings.Repeat("\n", 1<<20)); err == nil {
		t.Error("lines without a word")
	}
}

// P15.1, P3: a table is found, and handed out in memory of its own.
func TestFind(t *testing.T) {
	l := append(cpu(), api.Table{Measure: "cpu", Fields: []string{"other"}}, api.Table{Measure: "", Tags: []string{"none"}})
	for measure, want := range map[string]api.Table{"cpu": l[0], "mem": l[1], "": l[3]} {
		got, err := Find(l, measure)
		fails(t, measure, err, right())
		if !reflect.DeepEqual(got, want) {
			t.Errorf("%s: %v", measure, got)
		}
	}
	for _, measure := range []string{"CPU", "cp", "cpu ", "v"} {
		got, err := Find(l, measure)
		fails(t, measure, err, plainly(api.ErrMeasure))
		if !reflect.DeepEqual(got, api.Table{}) {
			t.Errorf("%v beside an error", got)
		}
	}
	_, err := Find(nil, "")
	fails(t, "nil", err, plainly(api.ErrMeasure))
	got, _ := Find(l, "cpu")
	got.Tags[0], got.Fields[1] = "x", "x"
	if l[0].Tags[0] != "host" || l[0].Fields[1] != "w" {
		t.Error("a table shares memory with the schema")
	}
}
