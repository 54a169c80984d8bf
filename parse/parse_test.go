package parse

import (
	"strings"
	"testing"

	"weir/api"
	"weir/ast"
	"weir/expect"
	"weir/fault"
	"weir/sample"
)

// holds holds what is told of a text against the model, and what was read against P14.3 and P14.4.
func holds(t *testing.T, n *network, rule, s string) bool {
	t.Helper()
	trees, err := face(t, rule, s)
	e, pos := model(n, rule, s)
	if e == 0 && rule == "query" && fault.Code(err) == api.ErrLong {
		e = api.ErrLong // TestPrintedTooLong tells more of these.
	}
	fails(t, s, err, e, pos)
	if t.Failed() {
		t.FailNow()
	}
	if err != nil {
		return false
	}
	for i, l := range trees {
		if rule == "query" && i == 0 && len(l) == 0 {
			continue
		}
		if rule == "cond" || rule == "query" && i == 0 {
			treeHolds(t, s, l, ast.PrintCond, Cond)
		} else {
			treeHolds(t, s, l, ast.PrintSum, Sum)
		}
	}
	if rule == "query" {
		q, _ := Query(s)
		queryHolds(t, q)
	}
	return true
}

// treeHolds holds a tree that was read: it is right, and comes back from its text.
func treeHolds(t *testing.T, s string, l []api.Node, print func([]api.Node) (string, error), read func(string) ([]api.Node, error)) {
	t.Helper()
	text, err := print(l)
	if err != nil {
		t.Fatalf("%q: %v: %v", s, l, err)
	}
	if len(text) > api.MaxQuery {
		return
	}
	again, err := read(text)
	if err != nil || !ast.Same(l, again) {
		t.Fatalf("%q is told as %q, which is read as %v: %v", s, text, again, err)
	}
}

// queryHolds holds a query that is right: it comes back from its text.
func queryHolds(t *testing.T, q api.Query) {
	t.Helper()
	text, err := ast.Print(q)
	if err != nil {
		t.Fatalf("%v: %v", q, err)
	}
	again, err := Query(text)
	if err != nil || !ast.Alike(q, again) {
		t.Fatalf("%q is read as %v, not %v: %v", text, again, q, err)
	}
	if twice, err := ast.Print(again); twice != text || err != nil {
		t.Fatalf("%q is printed as %q: %v", text, twice, err)
	}
}

// P14.1, P14.2, P14.4, P14.5: rows of the grammar, and rows with one token of them changed.
func TestAnyRows(t *testing.T) {
	n, d := learn(grammar), draw()
	for _, rule := range []string{"query", "cond", "sum"} {
		right, wrong := 0, map[api.Errno]int{}
		for range 20000 {
			row := derive(d, n, rule)
			for range d(3) {
				row = damage(d, row)
			}
			s := write(d, row)
			if len(s) > api.MaxQuery {
				continue
			}
			if holds(t, n, rule, s) {
				right++
			}
			e, _ := model(n, rule, s)
			wrong[e]++
		}
		least := map[string]map[api.Errno]int{
			"sum":   {api.ErrSyntax: 2000, api.ErrName: 300},
			"cond":  {api.ErrSyntax: 2000, api.ErrName: 100, api.ErrText: 100, api.ErrTime: 100},
			"query": {api.ErrSyntax: 2000, api.ErrName: 300, api.ErrText: 30, api.ErrTime: 10, api.ErrEvery: 100},
		}[rule]
		for e, count := range least {
			if wrong[e] < count {
				t.Errorf("%s: the error %d came up %d times", rule, e, wrong[e])
			}
		}
		if right < 1000 {
			t.Errorf("%s: %d were right", rule, right)
		}
	}
}

// P14.2, P14.5: all short rows.
func TestShortRows(t *testing.T) {
	n := learn(grammar)
	rows := func(pieces []string, most int, rule string) {
		var add func(s string, left int)
		add = func(s string, left int) {
			holds(t, n, rule, s)
			for _, p := range pieces {
				if left > 0 {
					add(s+" "+p, left-1)
				}
			}
		}
		add("", most)
	}
	rows([]string{"1", "max", "(", ")", "v", "-", "+", "*", "%", "1h", "'a'", `"time"`, "by"}, 4, "sum")
	rows([]string{"1", "max", "(", ")", "v", "-", "*"}, 6, "sum")
	rows([]string{"a", "'a'", "'1970-01-01T00:00:01Z'", "time", "5", "1h", "-", "=", "<", ">=", "!=", "in", "(", ")", ",", "and", "or", "not", "true", `""`, "'\x00'", "+"}, 3, "cond")
	rows([]string{"a", "'a'", "time", "5", "-", "=", "<", "in", "(", ")", ",", "and", "or", "not", "true"}, 4, "cond")
	rows([]string{"a", "'a'", "-", "5", "time", "=", "<="}, 6, "cond")
	rows([]string{"true", "not", "and", "or", "(", ")"}, 6, "cond")
}

// The chapter's examples, and others that tell the places of errors.
func TestErrors(t *testing.T) {
	for _, c := range []struct {
		rule, s string
		e       api.Errno
		pos     int
	}{
		{"query", "SELECT mean(v INTO x", api.ErrSyntax, 14},
		{"cond", "host < 'a'", api.ErrSyntax, 5},
		{"cond", "host = 5", api.ErrSyntax, 7},
		{"cond", "time = 'x'", api.ErrTime, 7},
		{"cond", "time IN ('a')", api.ErrSyntax, 5},
		{"cond", "'a' < time", api.ErrTime, 0},
		{"cond", `"time" = 'a'`, api.ErrName, 0},
		{"cond", "", api.ErrSyntax, 0},
		{"sum", "", api.ErrSyntax, 0},
		{"query", "", api.ErrSyntax, 0},
		{"query", "   ", api.ErrSyntax, 3},
		{"cond", "'a' < host", api.ErrSyntax, 6},
		{"cond", "'a' < -5", api.ErrSyntax, 6},
		{"cond", "'a' < - x", api.ErrSyntax, 8},
		{"cond", "'a' < 'b'", api.ErrSyntax, 6},
		{"cond", "'a' < \"time\"", api.ErrName, 6},
		{"cond", "'a' <", api.ErrSyntax, 5},
		{"cond", "host = - x", api.ErrSyntax, 9},
		{"cond", "host = -5", api.ErrSyntax, 7},
		{"cond", "5 = 'a'", api.ErrSyntax, 4},
		{"cond", "5 = host", api.ErrSyntax, 4},
		{"cond", "'a' = 5", api.ErrSyntax, 6},
		{"cond", "time = host", api.ErrSyntax, 7},
		{"cond", "host = time", api.ErrSyntax, 7},
		{"cond", "-1h IN ('a')", api.ErrSyntax, 4},
		{"cond", "host IN ()", api.ErrSyntax, 9},
		{"cond", "host IN ('a',)", api.ErrSyntax, 13},
		{"cond", "host IN 'a'", api.ErrSyntax, 8},
		{"cond", "host IN (b)", api.ErrSyntax, 9},
		{"cond", "time = ''", api.ErrTime, 7},
		{"cond", "time = 'a\x01'", api.ErrText, 7},
		{"cond", "'1677-09-21T00:12:43.145224192Z' <= time", api.ErrTime, 0},
		{"cond", "time > '2262-04-11T23:47:16.854775808Z'", api.ErrTime, 7},
		{"cond", "host", api.ErrSyntax, 4},
		{"cond", "host = 'a' = 'b'", api.ErrSyntax, 11},
		{"cond", "(TRUE", api.ErrSyntax, 5},
		{"cond", "TRUE)", api.ErrSyntax, 4},
		{"cond", "TRUE AND", api.ErrSyntax, 8},
		{"cond", "NOT", api.ErrSyntax, 3},
		{"cond", "host = 'a' host", api.ErrSyntax, 11},
		{"cond", "(a) = 'x'", api.ErrSyntax, 2},
		{"sum", "mean", api.ErrSyntax, 4},
		{"sum", "nope(v)", api.ErrSyntax, 0},
		{"sum", `"mean"(v)`, api.ErrSyntax, 0},
		{"sum", "mean()", api.ErrSyntax, 5},
		{"sum", "mean(time)", api.ErrSyntax, 5},
		{"sum", `mean("time")`, api.ErrName, 5},
		{"sum", "mean(5)", api.ErrSyntax, 5},
		{"sum", "1h", api.ErrSyntax, 0},
		{"sum", "-1h", api.ErrSyntax, 1},
		{"sum", "1 1", api.ErrSyntax, 2},
		{"sum", "1 +", api.ErrSyntax, 3},
		{"sum", "+1", api.ErrSyntax, 0},
		{"sum", "()", api.ErrSyntax, 1},
		{"query", "SELECT 1 FROM cpu GROUP BY time(0s)", api.ErrEvery, 32},
		{"query", "SELECT 1 FROM cpu GROUP BY time(1h, 1h)", api.ErrEvery, 36},
		{"query", "SELECT 1 FROM cpu GROUP BY time(288230376151711745ns", api.ErrEvery, 32},
		{"query", "SELECT 1 FROM cpu GROUP BY time(5)", api.ErrSyntax, 32},
		{"query", "SELECT 1 FROM cpu GROUP BY time(-1h)", api.ErrSyntax, 32},
		{"query", "SELECT 1 FROM cpu GROUP BY time(1h), time", api.ErrSyntax, 37},
		{"query", `SELECT 1 FROM cpu GROUP BY time(1h), "time"`, api.ErrName, 37},
		{"query", `SELECT 1 AS "time" FROM`, api.ErrName, 12},
		{"query", `SELECT 1 INTO "" FROM`, api.ErrName, 14},
		{"query", `SELECT 1 FROM "a` + "\x02" + `"`, api.ErrName, 14},
		{"query", "SELECT 1 FROM cpu", api.ErrSyntax, 17},
		{"query", "SELECT 1 FROM cpu INTO x GROUP BY time(1h)", api.ErrSyntax, 18},
		{"query", "SELECT 1, FROM cpu", api.ErrSyntax, 10},
		{"query", "SELECT 1 AS FROM cpu", api.ErrSyntax, 12},
		{"query", "SELECT 1 FROM cpu GROUP BY time(1h) FILL(last", api.ErrSyntax, 45},
		{"query", "SELECT 1 FROM cpu GROUP BY time(1h) FILL(first)", api.ErrSyntax, 41},
		{"query", `SELECT 1 FROM cpu GROUP BY time(1h) FILL("last")`, api.ErrSyntax, 41},
		{"query", "SELECT 1 FROM cpu GROUP BY time(1h) FILL(-last)", api.ErrSyntax, 42},
		{"query", "SELECT 1 FROM cpu GROUP BY time(1h) FILL(1h)", api.ErrSyntax, 41},
		{"query", "SELECT 1 FROM cpu GROUP BY time(1h) FILL(1) FILL(2)", api.ErrSyntax, 44},
		{"query", "SELECT 1 FROM cpu GROUP BY time(1h);", api.ErrChar, 35},
		{"query", "nonsense #", api.ErrChar, 9},
		{"sum", "1 + 'a", api.ErrQuote, 4},
		{"cond", "host = 3x", api.ErrNumber, 7},
	} {
		_, err := face(t, c.rule, c.s)
		fails(t, c.s, err, c.e, c.pos)
	}
}

// P14.2: what lex tells comes first, how long the text is, too.
func TestTokensFirst(t *testing.T) {
	long := strings.Repeat(" ", api.MaxQuery+1)
	for _, rule := range []string{"query", "cond", "sum"} {
		_, err := face(t, rule, long)
		fails(t, rule, err, api.ErrLong, expect.None)
		_, err = face(t, rule, long[1:])
		fails(t, rule, err, api.ErrSyntax, api.MaxQuery)
	}
}

// P14.3: right trees and queries come back from their texts.
func TestPrintAndRead(t *testing.T) {
	d := draw()
	for range 10000 {
		treeHolds(t, "a sum", d.Sum(1+d(7)), ast.PrintSum, Sum)
		treeHolds(t, "a condition", d.Cond(1+d(7)), ast.PrintCond, Cond)
		if q := d.Query(); ast.Right(q) == nil {
			queryHolds(t, q)
		}
	}
}

// P1: any bytes.
func TestAnyBytes(t *testing.T) {
	d := draw()
	for range 20000 {
		q := d.Query()
		s, err := ast.Print(q)
		if err != nil || s == "" {
			continue
		}
		b := []byte(s)
		for range 1 + d(3) {
			b[d(len(b))] = sample.One(d, byte(d(256)), ' ', '(', '\'', '-', ',', '1')
		}
		if q, err := Query(string(b)); err == nil {
			queryHolds(t, q)
		} else if !empty(q) {
			t.Errorf("%q: %v beside an error", b, q)
		}
	}
}
