package shell

import (
	"fmt"
	"strings"
	"testing"

	"weir/api"
	"weir/sample"
)

// Chapter 28's examples.
func TestExamples(t *testing.T) {
	run(t, "new a 10 100 'TABLE cpu TAGS host FIELDS v'\n"+
		"register a 'SELECT mean(v) AS m INTO hourly FROM cpu GROUP BY time(1h), host'\n"+
		"write a 'cpu,host=a v=4i 10'\nread a hourly '' 0 100\n"+
		"register a 'SELECT'\nwrite a 'mem v=1i 1'\nread b cpu '' 0 1\nhello\nread a cpu '' 5 1\n"+
		"expire a cpu 1970-01-01T01:00:00Z\nhorizon a cpu\nsteps a\n",
		"ok", "1", "1", "hourly,host=a m 0 4", "at 6: syntax", "number 0: measure", "store", "word", "range", "1", "1970-01-01T01:00:00Z", "0")
}

// P28.1: how lines are cut into words.
func TestWords(t *testing.T) {
	for line, want := range map[string]string{
		"":                      "",
		"   ":                   "",
		"#":                     "",
		"# it's a remark":       "",
		"  #count a":            "",
		"#'x":                   "",
		"# 'x' y":               "",
		"# 'it\\'s' \\n":        "",
		"# 'x":                  "word",
		"# 'x'y":                "word",
		"# a 'b\\n'":            "word",
		"'#'":                   "word",
		"'' count a":            "word",
		"count a":               "0 0",
		"  count   a  ":         "0 0",
		"count\ta":              "word",
		"count a\t":             "word",
		"count a\r":             "word",
		"'count' a":             "word",
		"Count a":               "word",
		"count 'a'":             "word",
		"count A":               "word",
		"count a1":              "word",
		"count é":               "word",
		"count a_":              "word",
		"count abcdefgh":        "store",
		"count z":               "store",
		"count abcdefghi":       "word",
		"count ''":              "word",
		"count":                 "word",
		"count a b":             "word",
		"count a ''":            "word",
		"count a #":             "word",
		"horizon a 'cpu'":       "1823-11-12T00:06:21.572612096Z",
		"horizon a cpu":         "1823-11-12T00:06:21.572612096Z",
		"horizon a 'c\\pu'":     "word",
		"horizon a 'cpu":        "word",
		"horizon a cpu'":        "measure",
		"horizon a c'p u'":      "word",
		"horizon a 'cpu''":      "word",
		"horizon a 'cpu'x":      "word",
		"horizon a 'cpu'\t":     "word",
		"horizon a '\\'':":      "word",
		"horizon a '\\'\\\\ x'": "measure",
		"horizon a \"cpu\"":     "measure",
		"horizon a ''":          "measure",
		"horizon b ''":          "store",
		"horizon b":             "word",
		"horizon B cpu":         "word",
		"hello":                 "word",
		"hello a":               "word",
		"\x00\xff":              "word",
	} {
		if want == "" {
			behind(t, line)
			continue
		}
		behind(t, line, want)
	}
}

// P28.1: how many words each line has, and of which form; that all engines are there is asked behind that.
func TestForms(t *testing.T) {
	right := map[string]string{
		"new": "a 1 1 'TABLE cpu FIELDS v'", "fork": "a f", "plain": "a", "best": "a",
		"register": "a 'SELECT max(v) INTO x FROM cpu GROUP BY time(1h)'", "drop": "a 1", "write": "a 'cpu v=1i 1'",
		"delete": "a cpu '' 1 2", "expire": "a cpu 1", "read": "a cpu '' 1 2", "select": "a 'SELECT max(v) FROM cpu GROUP BY time(1h)'",
		"explain": "a 1", "queries": "a", "query": "a 1", "horizon": "a cpu", "tables": "a", "count": "a", "steps": "a", "pack": "a", "even": "a a",
	}
	for verb, rest := range right {
		if got := Run(begun + verb + " " + rest); strings.HasSuffix(got, "word\n") || strings.HasSuffix(got, "store\n") {
			t.Errorf("%s: %s", verb, got)
		}
		if verb != "new" {
			run(t, verb+" "+rest, "store")
		}
		if verb != "new" && verb != "write" {
			behind(t, verb+" "+rest+" a", "word")
			behind(t, verb+" "+rest+" ''", "word")
		}
		words, whole := cut(rest)
		if !whole {
			t.Fatal(rest)
		}
		for n := range words {
			short := verb
			for _, w := range words[:n] {
				short += " " + map[bool]string{true: "'" + w.text + "'", false: w.text}[w.quoted]
			}
			behind(t, short, "word")
		}
	}
	behind(t, "even a b", "store")
	behind(t, "even b a", "store")
	behind(t, "even a 'a'", "word")
	behind(t, "even b B", "word")
	behind(t, "fork a F", "word")
	behind(t, "fork b F", "word")
	behind(t, "fork b f", "store")
	behind(t, "new b 1 1", "word")
	behind(t, "new 'b' 1 1 'TABLE cpu FIELDS v'", "word")
	behind(t, "read b cpu '' 0 x", "word")
}

// P28.1: what a number is, and what a time.
func TestNumbers(t *testing.T) {
	for _, n := range []string{"0", "1", "-1", "77", "9223372036854775807", "-9223372036854775808"} {
		behind(t, "drop a "+n, "query")
		behind(t, "explain a "+n, "query")
		behind(t, "query a "+n, "query")
	}
	times := []string{"1970-01-01T00:00:00Z", "2024-02-29T12:00:00.5+01:00"}
	for _, n := range append(times, "+1", "01", "-0", "00", "--1", "1_0", "0x1", "1.0", "1e3", "", "'1'", "''", "-", "9223372036854775808", "-9223372036854775809", "1h", "١") {
		behind(t, "drop a "+n, "word")
		behind(t, "explain a "+n, "word")
		behind(t, "query a "+n, "word")
		behind(t, "new b "+n+" 1 'TABLE cpu FIELDS v'", "word")
		behind(t, "new b 1 "+n+" 'TABLE cpu FIELDS v'", "word")
	}
	for _, at := range append(times, "-5", "0") {
		behind(t, "read a cpu '' "+at+" "+at, "none")
		behind(t, "delete a cpu '' "+at+" "+at, "0")
		behind(t, "expire a cpu "+at, "0")
	}
	for _, at := range []string{"+1", "01", "'1'", "'1970-01-01T00:00:00Z'", "1970-01-01", "1970-01-01T00:00:00", "2023-02-29T00:00:00Z", "0001-01-01T00:00:00Z", "9223372036854775808", "x", "1h"} {
		behind(t, "read a cpu '' "+at+" 5", "word")
		behind(t, "read a cpu '' 5 "+at, "word")
		behind(t, "delete a cpu '' "+at+" 5", "word")
		behind(t, "delete a cpu '' 5 "+at, "word")
		behind(t, "expire a cpu "+at, "word")
	}
	behind(t, "write a 'cpu v=1i 0' 'cpu v=2i 1' 'cpu v=3i 2'\nread a cpu '' 1970-01-01T00:00:00.000000001Z 2", "3", "cpu v 1 2")
	behind(t, "write a 'cpu v=1i 0' 'cpu v=2i 1' 'cpu v=3i 2'\ndelete a cpu '' 0 1970-01-01T00:00:00.000000002Z\nread a cpu '' 0 9", "3", "2", "cpu v 2 3")
}

// P28.1: what each line does, by hand.
func TestLines(t *testing.T) {
	behind(t, "new b 1 1 'TABLE cpu'", "schema")
	behind(t, "new b 1 1 'TABLE cpu FIELDS v' ''", "schema")
	behind(t, "new b 1 -1 'TABLE cpu FIELDS v'", "range")
	behind(t, "new b 1 4096 TABLE cpu FIELDS v", "schema")
	behind(t, "tables a\nnew a 5000 1 'TABLE mem FIELDS v'\ntables a\nnew a 1 1 'TABLE mem FIELDS v' 'TABLE \"x y\" TAGS \"time 1\" FIELDS \"it\\'s\"'\ntables a",
		"TABLE cpu TAGS host, zone FIELDS v, w", "range", "TABLE cpu TAGS host, zone FIELDS v, w", "ok", "TABLE mem FIELDS v", `TABLE "x y" TAGS "time 1" FIELDS "it's"`)
	behind(t, "fork a b\nwrite a 'cpu v=1i 1'\ncount a\ncount b\nfork b a\ncount a\nfork a a\ncount a", "ok", "1", "1 1", "0 0", "ok", "0 0", "ok", "0 0")
	behind(t, "write a 'cpu v=1i 1' '' '#' 'cpu v=2i 1,' cpu", "number 3: at 10: line")
	behind(t, "write a 'cpu v=1i 1' 'cpu v=2i 1' '' 'cpu,host=it\\'s,zone=a\\\\ b v=3i 1'\nread a cpu 'host != \\'\\'' 0 9", "2", `cpu,host=it's,zone=a\ b v 1 3`)
	behind(t, "register a 'SELECT sum(v), 1 / (max(v) - max(v)) AS z INTO t FROM cpu GROUP BY time(1h)'\nwrite a 'cpu v=4611686018427387904i 1' 'cpu v=4611686018427387904i 2'\nread a t '' -1 1\n"+
		"select a 'SELECT sum(v), count(v) / 0 AS z FROM cpu GROUP BY time(2ns), host'\nselect a 'SELECT max(w) FROM cpu GROUP BY time(1h)'\nselect a 'SELECT max(v) INTO x FROM cpu GROUP BY time(1h)'",
		"1", "2", "t sum_v 0 over", "t z 0 void", "0 - sum_v=4611686018427387904,z=void", "2 - sum_v=4611686018427387904,z=void", "none", "at 19: target")
	behind(t, "queries a\nregister a 'select  max(v)  into t from cpu group by time(60m)'\nregister a 'SELECT max(max_v) INTO u FROM t GROUP BY time(1d)'\nqueries a\nquery a 1\ndrop a 1\ndrop a 2\ndrop a 2\nqueries a\nquery a 2",
		"none", "1", "2", "1 2", "SELECT max(v) INTO t FROM cpu GROUP BY time(1h)", "used", "ok", "query", "1", "query")
	behind(t, "expire a cpu -5\nhorizon a cpu\nexpire a cpu -6\nexpire a nope 1\nhorizon a nope\nwrite a 'cpu v=1i -6'", "0", "1969-12-31T23:59:59.999999995Z", "range", "measure", "measure", "number 0: old")
	behind(t, "register a 'SELECT mean(v) INTO t FROM cpu GROUP BY time(1h)'\nexplain a 1\nexplain a 2",
		"1", "from cpu", "into t", "window 1h 0s", "acc 0 sum v", "acc 1 count v", "out mean_v ratio acc 0 acc 1",
		`from "cpu"`, `into "t"`, "window 3600000000000 0", `acc 2 "v"`, `acc 1 "v"`, `alias "mean_v"`, "filter", "pushtrue", "accept", "output", "ratio 0 1", "emit 0", "done", "query")
	behind(t, "plain a\nregister a 'SELECT mean(v), sum(v) INTO t FROM cpu GROUP BY time(1h)'\nbest a\nregister a 'SELECT mean(v), sum(v) INTO u FROM cpu GROUP BY time(1h)'\nwrite a 'cpu v=1i 1'\nsteps a\nsteps a\ncount a\nread a t '' 0 1\nsteps a",
		"ok", "1", "ok", "2", "1", "14", "14", "5 5", "t mean_v 0 1", "t sum_v 0 1", "14")
	behind(t, "delete a nope '' 0 1\ndelete a cpu 'time > 5' 0 1\ndelete a cpu 'x' 0 1\ndelete a cpu '' 1 0", "measure", "tree", "at 1: syntax", "range")
}

// P28.1: tables that are too many to be printed are an error's line.
func TestManyTables(t *testing.T) {
	script := "new a 10 10"
	var lines []string
	for i := range api.MaxTables {
		lines = append(lines, fmt.Sprintf("TABLE t%d FIELDS v", i))
		script += " '" + lines[i] + "'"
	}
	run(t, script+"\ntables a\nregister a 'SELECT max(v) INTO x FROM t0 GROUP BY time(1h)'\ntables a\neven a a\n",
		append(append([]string{"ok"}, lines...), "1", "long", "even")...)
}

// P28.1: what makes two engines odd.
func TestEven(t *testing.T) {
	for lines, want := range map[string]string{
		"":                               "even",
		"write b 'cpu v=1i 1'":           "odd",
		"write b 'cpu v=1i 1'\ndrop b 9": "odd",
		"write a 'cpu v=1i 1'\nwrite b 'cpu v=1i 1'":                             "even",
		"write a 'cpu v=1i 1'\nwrite b 'cpu v=2i 1'":                             "odd",
		"write a 'cpu v=1i 1'\nwrite b 'cpu v=1i 2'":                             "odd",
		"write a 'cpu v=1i 1'\nwrite b 'cpu w=1i 1'":                             "odd",
		"write a 'cpu,host=a v=1i 1'\nwrite b 'cpu,host=b v=1i 1'":               "odd",
		"write a 'cpu v=1i -4611686018427387904' 'cpu v=2i 4611686018427387904'": "odd",
		"expire b cpu -4611686018427387904":                                      "even",
		"expire b cpu 0":                                                         "odd",
		"expire b cpu 0\nexpire a cpu 0":                                         "even",
		"register b 'SELECT max(v) INTO t FROM cpu GROUP BY time(1h)'":           "odd",
		"register b 'SELECT max(v) INTO t FROM cpu GROUP BY time(1h)'\nregister a 'SELECT max(v) INTO t FROM cpu GROUP BY time(1h)'":          "even",
		"register b 'SELECT max(v) INTO t FROM cpu GROUP BY time(1h)'\nregister a 'SELECT max(v) INTO t FROM cpu GROUP BY time(1h), host'":    "odd",
		"register b 'SELECT max(v) INTO t FROM cpu GROUP BY time(1h)'\nregister a 'SELECT min(v) AS max_v INTO t FROM cpu GROUP BY time(1h)'": "even",
		"register b 'SELECT max(v) INTO t FROM cpu GROUP BY time(1h)'\ndrop b 1":                                                              "even",
		"register a 'SELECT max(v) INTO t FROM cpu GROUP BY time(1h)'\nfork a b\nexpire b t 0":                                                "odd",
		"write a 'cpu v=1i 1'\nregister a 'SELECT max(v) INTO t FROM cpu GROUP BY time(1h)'\nfork a b\nexpire b t 1":                          "odd",
		"new b 1 1 'TABLE cpu TAGS host, zone FIELDS v, w'":                                                                                   "even",
		"new b 1 1 'TABLE cpu TAGS host, zone FIELDS v'":                                                                                      "odd",
		"new b 1 1 'TABLE cpu TAGS zone, host FIELDS v, w'":                                                                                   "odd",
		"new b 1 1 'TABLE mem TAGS host, zone FIELDS v, w'":                                                                                   "odd",
	} {
		for _, pair := range []string{"a b", "b a"} {
			got := Run(begun + "fork a b\n" + lines + "\neven " + pair + "\n")
			if !strings.HasSuffix(got, "\n"+want+"\n") {
				t.Errorf("%s: %s", lines, got)
			}
		}
	}
}

// P28.1: how long a script may be, and how its last line ends.
func TestLong(t *testing.T) {
	all := strings.Repeat("#", api.MaxScript-len("\nhello"))
	run(t, all+"\nhello", "word")
	run(t, all+"\nhello\n", "long")
	run(t, strings.Repeat("hello\n", api.MaxScript), "long")
	run(t, "hello", "word")
	run(t, "\n\nhello\n\nhello", "word", "word")
	if got := Run(""); got != "" {
		t.Error(got)
	}
}

// P28.1: whatever the lines, each answers what the engine's call tells. Nothing is kept from call to call.
func TestAnyLines(t *testing.T) {
	d := draw()
	seen := map[string]int{}
	for range 300 {
		m := newModel(d)
		for range 60 {
			m.step()
		}
		script := m.script.String()
		if len(script) > api.MaxScript {
			continue
		}
		for range 2 {
			run(t, script, strings.Split(strings.TrimSuffix(m.told.String(), "\n"), "\n")...)
		}
		for what, n := range m.seen {
			seen[what] += n
		}
		m.beginsWithTheFirst(t)
		m.pureLines(t)
	}
	for verb := range verbs() {
		if seen[verb] < 100 {
			t.Errorf("%s: %d lines", verb, seen[verb])
		}
	}
	for _, verb := range []string{"new", "register", "drop", "write", "delete", "expire", "read", "select", "explain", "query", "horizon", "even"} {
		if n := seen[verb+" refused"]; n < 20 || n > seen[verb]*9/10 {
			t.Errorf("%s: %d lines, %d refused", verb, seen[verb], n)
		}
	}
}

// P28.2: a script that is cut behind a line begins as the first part does.
func (m *model) beginsWithTheFirst(t *testing.T) {
	t.Helper()
	script := m.script.String()
	at := m.d(len(script))
	first := script[:strings.LastIndex(script[:at], "\n")+1]
	if got := Run(first); !strings.HasPrefix(m.told.String(), got) {
		t.Fatalf("%s\nanswers\n%s", first, got)
	}
}

// P28.3: without the lines that change nothing the others answer the same.
func (m *model) pureLines(t *testing.T) {
	t.Helper()
	var kept, all strings.Builder
	// A line that cannot be done stands ahead of each, so that it is seen which answers are whose.
	for i, line := range strings.Split(strings.TrimSuffix(m.script.String(), "\n"), "\n") {
		if !m.pure[i] {
			kept.WriteString("mark\n" + line + "\n")
		}
		all.WriteString(map[bool]string{true: "mark pure\n", false: "mark\n"}[m.pure[i]] + line + "\n")
	}
	got := strings.Split(Run(all.String()), "word\n")
	var others string
	for i, answer := range got[1:] {
		if !m.pure[i] {
			others += "word\n" + answer
		}
	}
	if want := Run(kept.String()); others != want {
		t.Fatalf("%s\nanswers\n%s\nand not\n%s", all.String(), others, want)
	}
}

// P28.4 (E6, E7): two engines of one schema with the same lines, but plain in the one.
func TestPlainIsEven(t *testing.T) {
	d := draw()
	rows := 0
	for range 100 {
		m := newModel(d)
		var script strings.Builder
		for _, name := range []string{"a", "b"} {
			script.WriteString("new " + name + " 100 1000 'TABLE cpu TAGS host, zone FIELDS v, w' 'TABLE \"net io\" FIELDS v'\n")
		}
		script.WriteString("plain b\n")
		for range 40 {
			line := sample.One(d,
				"register %s "+quoted(d, m.someText(true)), "write %s "+quoted(d, m.somePoint()), "write %s "+quoted(d, m.somePoint())+" "+quoted(d, m.somePoint()),
				fmt.Sprintf("delete %%s cpu '' %d %d", d(20)-20, d(40)), fmt.Sprintf("expire %%s cpu %d", 10*d(3)-30), fmt.Sprintf("drop %%s %d", d(9)))
			for _, name := range []string{"a", "b"} {
				script.WriteString(strings.Replace(line, "%s", name, 1) + "\n")
			}
		}
		got := Run(script.String() + "count a\neven a b\n")
		if !strings.HasSuffix(got, "even\n") {
			t.Fatalf("%s\n%s", script.String(), got)
		}
		if !strings.HasSuffix(got, "0 0\neven\n") {
			rows++
		}
	}
	if rows < 80 {
		t.Errorf("%d engines with samples", rows)
	}
}
