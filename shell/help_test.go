package shell

import (
	"fmt"
	"math"
	"math/rand"
	"strings"
	"testing"

	"weir/api"
	"weir/cell"
	"weir/check"
	"weir/engine"
	"weir/fault"
	"weir/key"
	"weir/parse"
	"weir/sample"
	"weir/span"
)

// draw draws from a source with a fixed seed, so that each run draws the same.
func draw() sample.Draw { return rand.New(rand.NewSource(1970)).Intn }

// run holds what a script answers against lines.
func run(t *testing.T, script string, want ...string) {
	t.Helper()
	all := strings.Join(append(want, ""), "\n")
	if got := Run(script); got != all {
		t.Fatalf("%.2000s:\n%.2000s\nand not\n%.2000s", script, got, all)
	}
}

// begun is a line that makes the engine a, behind which others stand.
const begun = "new a 100 1000 'TABLE cpu TAGS host, zone FIELDS v, w'\n"

// behind holds what a line answers behind others that begin an engine.
func behind(t *testing.T, line string, want ...string) {
	t.Helper()
	run(t, begun+line+"\n", append([]string{"ok"}, want...)...)
}

// quoted is a word that says a text; bare, if it may be and is drawn so.
func quoted(d sample.Draw, s string) string {
	if s != "" && !strings.Contains(s, " ") && s[0] != '\'' && d(2) > 0 {
		return s
	}
	return "'" + strings.ReplaceAll(strings.ReplaceAll(s, `\`, `\\`), "'", `\'`) + "'"
}

// model is what a script must do: its engines, and what is told.
type model struct {
	engines map[string]*engine.Engine
	d       sample.Draw
	script  strings.Builder
	told    strings.Builder
	pure    []bool // of each line: does it change nothing?
	seen    map[string]int
}

func newModel(d sample.Draw) *model {
	return &model{engines: map[string]*engine.Engine{}, d: d, seen: map[string]int{}}
}

// line is a line of the script and what it must answer.
func (m *model) line(verb string, words []string, answer string) {
	between := func() string { return strings.Repeat(" ", 1+m.d(2)*m.d(3)) }
	text := strings.Repeat(" ", m.d(2)*m.d(2)) + verb
	for _, w := range words {
		text += between() + w
	}
	m.script.WriteString(text + strings.Repeat(" ", m.d(2)*m.d(2)) + "\n")
	m.told.WriteString(answer)
	changing := " new fork plain best register drop write delete expire "
	m.pure = append(m.pure, !strings.Contains(changing, " "+verb+" "))
	m.seen[verb]++
	if _, err := fault.Parse(strings.TrimSuffix(answer, "\n")); err == nil && answer != "ok\n" && answer != "none\n" {
		m.seen[verb+" refused"]++
	}
}

// tells is an error's line, or what is told without one.
func tells(err error, text string) string {
	if err != nil {
		return fault.Print(err) + "\n"
	}
	if text == "" {
		return "none\n"
	}
	return text
}

// someText draws the text of a query.
func (m *model) someText(into bool) string {
	source := sample.One(m.d, "cpu", "cpu", "cpu", "cpu", `"net io"`, "t1", "nope")
	item := sample.One(m.d, "sum(v)", "mean(v) AS v", "max(v) / count(v) AS q, min(v)", "sum(v) * 4611686018427387904 AS v", "1 / (max(v) - max(v)) AS never", "last(v) AS v")
	where := sample.One(m.d, "", "", "", " WHERE host = 'a'", " WHERE host != 'it\\'s' AND time >= 0")
	if m.d(8) == 0 {
		item, where = sample.One(m.d, "mean(v", "1 AS v", "last(m)", item), sample.One(m.d, where, " WHERE nope = 'a'")
	}
	target := ""
	if into {
		target = " INTO " + sample.One(m.d, "t1", "t2", "t3", "cpu", `"x y"`)
	}
	if m.d(12) == 0 {
		target = sample.One(m.d, "", " INTO t4")
	}
	fill := ""
	if !into {
		fill = sample.One(m.d, "", " FILL(last)", " FILL(-7)")
	}
	return "SELECT " + item + target + " FROM " + source + where + " GROUP BY " + sample.One(m.d, "time(10ns)", "time(10ns)", "time(20ns), host", "time(20ns), host", "time(10ns, 5ns), host, zone", "time(10ns), nope") + fill
}

// somePoint draws the line of a point.
func (m *model) somePoint() string {
	tags := sample.One(m.d, "", ",host=a", ",host=b\\ c,zone=z", ",zone=it's", ",host=a,zone=\\\\")
	measure := sample.One(m.d, "cpu", "cpu", "cpu", "net\\ io", "nope")
	if measure == "net\\ io" {
		tags = ""
	}
	text := fmt.Sprintf("%s%s v=%di", measure, tags, sample.One[int64](m.d, 1, 5, -9, 1<<62, math.MinInt64))
	if measure == "cpu" && m.d(2) > 0 {
		text += ",w=3i"
	}
	text += fmt.Sprint(" ", m.d(60)-20)
	if m.d(15) == 0 {
		return sample.One(m.d, text[1:], "# "+text, "", text[:len(text)-1]+"x")
	}
	return text
}

// someMoment draws a time and a word that says it.
func (m *model) someMoment() (int64, string) {
	n := sample.One(m.d, int64(m.d(60)-20), int64(m.d(60)-20), -20, math.MinInt64, math.MaxInt64)
	if m.d(3) == 0 {
		return n, span.Text(n)
	}
	return n, fmt.Sprint(n)
}

// someNumber draws the number of a query; of some there is none.
func (m *model) someNumber(e *engine.Engine) int {
	return sample.One(m.d, append(e.Queries(), append(e.Queries(), m.d(6))...)...)
}

// step draws a line.
func (m *model) step() {
	verb := sample.One(m.d, "fork", "plain", "best", "register", "register", "register", "drop", "write", "write", "write", "write", "delete", "expire",
		"read", "read", "read", "select", "select", "explain", "queries", "query", "horizon", "tables", "count", "steps", "pack", "even")
	name, other := sample.One(m.d, "a", "b", "abcdefgh"), sample.One(m.d, "a", "b", "c")
	e := m.engines[name]
	if e == nil || m.d(60) == 0 {
		verb = "new"
	}
	switch verb {
	case "new":
		m.begin(name)
	case "fork":
		m.engines[other] = e.Fork()
		m.line(verb, []string{name, other}, "ok\n")
	case "plain", "best":
		e.Plain(verb == "plain")
		m.line(verb, []string{name}, "ok\n")
	case "even":
		f, answer := m.engines[other], "odd\n"
		if f == nil {
			answer = "store\n"
		} else if face(e) == face(f) {
			answer = "even\n"
		}
		m.line(verb, []string{name, other}, answer)
	case "register", "drop", "write", "delete", "expire":
		m.change(verb, name, e)
	default:
		m.ask(verb, name, e)
	}
}

// begin makes an engine.
func (m *model) begin(name string) {
	texts := sample.One(m.d, []string{"TABLE cpu TAGS host, zone FIELDS v, w", `TABLE "net io" FIELDS v`}, []string{"TABLE cpu TAGS host, zone FIELDS v, w", `TABLE "net io" FIELDS v`},
		[]string{"TABLE cpu FIELDS v"}, []string{"TABLE cpu"}, []string{""}, []string{"TABLE cpu FIELDS v", "TABLE cpu FIELDS v"})
	series, points := sample.One(m.d, 100, 100, 100, 100, 3, -1, 1<<40), sample.One(m.d, 1000, 1000, 1000, 9)
	tables, err := check.Parse(strings.Join(append(texts, ""), "\n"))
	var e *engine.Engine
	if err == nil {
		e, err = engine.New(tables, series, points)
	}
	if err == nil {
		m.engines[name] = e
	}
	words := []string{name, fmt.Sprint(series), fmt.Sprint(points)}
	for _, s := range texts {
		words = append(words, quoted(m.d, s))
	}
	m.line("new", words, tells(err, "ok\n"))
}

// change makes a call that changes an engine.
func (m *model) change(verb, name string, e *engine.Engine) {
	measure := sample.One(m.d, "cpu", "cpu", "net io", "t1", "nope", "")
	from, fromWord := m.someMoment()
	to, toWord := m.someMoment()
	var n int
	var err error
	words := []string{name}
	switch verb {
	case "register":
		text := m.someText(true)
		n, err = e.Register(text)
		words = append(words, quoted(m.d, text))
	case "drop":
		id := m.someNumber(e)
		err = e.Drop(id)
		m.line(verb, append(words, fmt.Sprint(id)), tells(err, "ok\n"))
		return
	case "write":
		texts := sample.Some(1+m.d(3), m.somePoint)
		n, err = e.Write(strings.Join(append(texts, ""), "\n"))
		for _, s := range texts {
			words = append(words, quoted(m.d, s))
		}
	case "delete":
		cond := sample.One(m.d, "", "", "host = 'a'", "host IN ('b c', '')", "time > 5", "x")
		n, err = e.Delete(measure, cond, from, to)
		words = append(words, quoted(m.d, measure), quoted(m.d, cond), fromWord, toWord)
	case "expire":
		n, err = e.Expire(measure, from)
		words = append(words, quoted(m.d, measure), fromWord)
	}
	m.line(verb, words, tells(err, fmt.Sprintln(n)))
}

// ask makes a call that changes nothing.
func (m *model) ask(verb, name string, e *engine.Engine) {
	id := m.someNumber(e)
	measure := sample.One(m.d, "cpu", "cpu", "net io", "t1", "t2", "nope")
	var err error
	answer, words := "", []string{name}
	switch verb {
	case "read":
		from, fromWord := m.someMoment()
		to, toWord := m.someMoment()
		cond := sample.One(m.d, "", "", "", "host = 'a'", "nope = ''")
		var l []api.Write
		l, err = e.Read(measure, cond, from, to)
		for _, w := range l {
			answer += fmt.Sprintln(key.Print(w.Series), w.Sample.Time, value(w.Sample.Value))
		}
		words = append(words, quoted(m.d, measure), quoted(m.d, cond), fromWord, toWord)
	case "select":
		text := m.someText(false)
		var rows []api.Row
		rows, err = e.Select(text)
		if err == nil {
			q, _ := parse.Query(text)
			q, _ = check.Query(e.Tables(), q)
			answer, err = cell.Print(q, rows)
		}
		words = append(words, quoted(m.d, text))
	case "explain":
		answer, err = e.Explain(id)
		words = append(words, fmt.Sprint(id))
	case "query":
		answer, err = e.Text(id)
		answer += "\n"
		words = append(words, fmt.Sprint(id))
	case "queries":
		if l := e.Queries(); len(l) > 0 {
			answer = strings.Trim(fmt.Sprint(l), "[]") + "\n"
		}
	case "horizon":
		var at int64
		at, err = e.Horizon(measure)
		answer = span.Text(at) + "\n"
		words = append(words, quoted(m.d, measure))
	case "tables":
		answer, err = check.Print(e.Tables())
	case "count":
		answer = fmt.Sprintln(e.Count())
	case "steps":
		answer = fmt.Sprintln(e.Steps())
	case "pack":
		answer = fmt.Sprintln("packed", len(e.Save()), "same")
	}
	m.line(verb, words, tells(err, answer))
}

func value(v api.Value) string {
	if v.Kind == api.Int {
		return fmt.Sprint(v.N)
	}
	return [...]string{"", "over", "void"}[v.Kind]
}

// face is what two engines that are even have in common.
func face(e *engine.Engine) string {
	out := fmt.Sprint(e.Tables())
	for _, table := range e.Tables() {
		at, _ := e.Horizon(table.Measure)
		l, _ := e.Read(table.Measure, "", math.MinInt64, math.MaxInt64)
		out += fmt.Sprint(at, l)
	}
	return out
}
