package parse

import (
	"reflect"
	"strings"
	"testing"

	"weir/api"
	"weir/ast"
	"weir/expect"
	"weir/sample"
)

// The chapter's first example, and queries with as little and as much as may be: all that they say, and where.
func TestQueries(t *testing.T) {
	for s, want := range map[string]api.Query{
		"select MEAN(v) as m into hourly from cpu where host = 'a' and time >= '1970-01-01T00:00:01Z' group by time(1h, 5m), zone fill(-1)": {
			Items: []api.Item{{Tree: []api.Node{{Op: api.OpCall, Func: api.Mean, S: "v", Pos: 7}}, Alias: api.Label{Text: "m", Pos: 18}, Pos: 7}},
			Into:  api.Label{Text: "hourly", Pos: 25}, From: api.Label{Text: "cpu", Pos: 37},
			Where: []api.Node{{Op: api.OpAnd, Kids: 2, Pos: 58}, {Op: api.OpEq, Kids: 2, Pos: 52}, {Op: api.OpTag, S: "host", Pos: 47}, {Op: api.OpText, S: "a", Pos: 54},
				{Op: api.OpGe, Kids: 2, Pos: 67}, {Op: api.OpClock, Pos: 62}, {Op: api.OpTime, N: 1000000000, Pos: 70}},
			Every: 3600000000000, Offset: 300000000000, EveryPos: 107, Groups: []api.Label{{Text: "zone", Pos: 116}}, Fill: api.FillWith, FillN: -1, FillPos: 121,
		},
		`SELECT 1 FROM "time" GROUP BY time(1ns)`: {
			Items: []api.Item{{Tree: []api.Node{{Op: api.OpInt, N: 1, Pos: 7}}, Pos: 7}}, From: api.Label{Text: "time", Pos: 14}, Every: 1, EveryPos: 35,
		},
		"\nSELECT (1)+max(w) AS last ,-v(": {},
		` SELECT (1)+max(w) AS last ,-(5)INTO"time"FROM"a b"WHERE TRUE GROUP BY TIME(288230376151711744ns,288230376151711743ns),sum,"TIME"FILL(LAST)`: {
			Items: []api.Item{
				{Tree: []api.Node{{Op: api.OpAdd, Kids: 2, Pos: 11}, {Op: api.OpInt, N: 1, Pos: 9}, {Op: api.OpCall, Func: api.Max, S: "w", Pos: 12}}, Alias: api.Label{Text: "last", Pos: 22}, Pos: 8},
				{Tree: []api.Node{{Op: api.OpNeg, Kids: 1, Pos: 28}, {Op: api.OpInt, N: 5, Pos: 30}}, Pos: 28},
			},
			Into: api.Label{Text: "time", Pos: 36}, From: api.Label{Text: "a b", Pos: 46}, Where: []api.Node{{Op: api.OpTrue, Pos: 57}},
			Every: 1 << 58, Offset: 1<<58 - 1, EveryPos: 76, Groups: []api.Label{{Text: "sum", Pos: 119}, {Text: "TIME", Pos: 123}}, Fill: api.FillLast, FillPos: 129,
		},
		"SELECT 1 FROM a GROUP BY time(2h, 0s) FILL(0)": {
			Items: []api.Item{{Tree: []api.Node{{Op: api.OpInt, N: 1, Pos: 7}}, Pos: 7}}, From: api.Label{Text: "a", Pos: 14}, Every: 7200000000000, EveryPos: 30, Fill: api.FillWith, FillPos: 38,
		},
		"SELECT 1 FROM a GROUP BY time(2h) FILL(- 9223372036854775807)": {
			Items: []api.Item{{Tree: []api.Node{{Op: api.OpInt, N: 1, Pos: 7}}, Pos: 7}}, From: api.Label{Text: "a", Pos: 14}, Every: 7200000000000, EveryPos: 30, Fill: api.FillWith, FillN: -9223372036854775807, FillPos: 34,
		},
	} {
		q, err := Query(s)
		if !reflect.DeepEqual(q, want) || (err == nil) != (len(want.Items) > 0) {
			t.Errorf("%q:\n%v, not\n%v: %v", s, q, want, err)
		}
	}
}

// rest is what may stand behind the items of a query.
const rest = " FROM cpu GROUP BY time(1h)"

// P14.1: how many items, groups and texts there may be.
func TestMany(t *testing.T) {
	many := func(s string, n int) string { return strings.TrimSuffix(strings.Repeat(s, n), ", ") }
	bad := "'" + strings.Repeat("t", 257) + "'"
	for _, c := range []struct {
		s   string
		e   api.Errno
		pos int
	}{
		{"SELECT " + many("1, ", 16) + rest, 0, expect.None},
		{"SELECT " + many("1, ", 17) + rest, api.ErrLong, 7 + 16*3},
		{"SELECT " + many("1, ", 16) + ", FROM", api.ErrSyntax, 7 + 16*3},
		{"SELECT " + many("1, ", 16) + ", max FROM", api.ErrLong, 7 + 16*3},
		{"SELECT " + many("1, ", 16) + ", (FROM", api.ErrLong, 7 + 16*3},
		{"SELECT " + many("1, ", 16) + ", - FROM", api.ErrLong, 7 + 16*3},
		{"SELECT " + many("1, ", 16) + ", 1h", api.ErrSyntax, 7 + 16*3},
		{"SELECT " + many("1, ", 16) + ", v", api.ErrSyntax, 7 + 16*3},
		{"SELECT " + many("1, ", 16) + ", )", api.ErrSyntax, 7 + 16*3},
		{"SELECT " + many("1, ", 16) + ", '('", api.ErrSyntax, 7 + 16*3},
		{"SELECT " + many("1, ", 16) + ",", api.ErrSyntax, 7 + 16*3 - 1},
		{"SELECT 1" + rest + strings.Repeat(", a", 8), 0, expect.None},
		{"SELECT 1" + rest + strings.Repeat(", a", 9), api.ErrLong, 35 + 8*3 + 2},
		{"SELECT 1" + rest + strings.Repeat(", a", 8) + `, "time"`, api.ErrName, 35 + 8*3 + 2},
		{"SELECT 1" + rest + strings.Repeat(", a", 8) + ", 5", api.ErrSyntax, 35 + 8*3 + 2},
		{"SELECT 1" + rest + strings.Repeat(", a", 8) + " fill(last)", 0, expect.None},
		{"SELECT 1 FROM cpu WHERE a IN (" + many("'', ", 64) + ") GROUP BY time(1h)", 0, expect.None},
		{"SELECT 1 FROM cpu WHERE a IN (" + many("'', ", 65) + ") GROUP BY time(1h)", api.ErrLong, 30 + 64*4},
		{"SELECT 1 FROM cpu WHERE a IN (" + many("'', ", 64) + ", " + bad, api.ErrText, 30 + 64*4},
		{"SELECT 1 FROM cpu WHERE a IN (" + many("'', ", 64) + ", b", api.ErrSyntax, 30 + 64*4},
		{"SELECT 1 FROM cpu WHERE a IN (" + many("'', ", 64) + ") AND a IN (" + many("'', ", 64) + ") GROUP BY time(1h)", 0, expect.None},
	} {
		_, err := Query(c.s)
		fails(t, c.s, err, c.e, c.pos)
	}
}

// nested is a text in so many brackets.
func nested(s string, deep int) string {
	return strings.Repeat("(", deep) + s + strings.Repeat(")", deep)
}

// P14.1: how many brackets may be open, and which count.
func TestBrackets(t *testing.T) {
	for _, c := range []struct {
		rule, s string
		e       api.Errno
		pos     int
	}{
		{"sum", nested("1", 64), 0, expect.None},
		{"sum", nested("1", 65), api.ErrDeep, 64},
		{"sum", strings.Repeat("(", 65), api.ErrDeep, 64},
		{"sum", strings.Repeat("(", 64), api.ErrSyntax, 64},
		{"sum", nested("max(v)", 64), 0, expect.None},
		{"sum", nested("1", 64) + " + " + nested("1", 64), 0, expect.None},
		{"sum", nested("1", 64) + " + " + nested("1", 65), api.ErrDeep, 64*2 + 1 + 3 + 64},
		{"cond", nested("TRUE", 64), 0, expect.None},
		{"cond", nested("TRUE", 65), api.ErrDeep, 64},
		{"cond", nested("a IN ('x')", 64), 0, expect.None},
		{"cond", nested("TRUE", 64) + " AND " + nested("TRUE", 64), 0, expect.None},
		{"query", "SELECT " + nested("max(v)", 64) + ", " + nested("1", 64) + " FROM cpu WHERE " + nested("a IN ('')", 64) + " GROUP BY time(1h) FILL(1)", 0, expect.None},
		{"query", "SELECT " + nested("1", 65) + rest, api.ErrDeep, 7 + 64},
		{"query", "SELECT 1 FROM cpu WHERE " + nested("TRUE", 65), api.ErrDeep, 24 + 64},
	} {
		_, err := face(t, c.rule, c.s)
		fails(t, c.s, err, c.e, c.pos)
	}
}

// P14.1: how deep trees may be. That is told when a tree is there as a whole, ahead of what stands behind it.
func TestDeep(t *testing.T) {
	row := func(word, between string, n int) string {
		return strings.TrimSuffix(strings.Repeat(word+between, n), between)
	}
	long := strings.Repeat("n", 65)
	for _, c := range []struct {
		rule, s string
		e       api.Errno
		pos     int
	}{
		{"sum", row("1", " + ", 64), 0, expect.None},
		{"sum", row("1", " + ", 65), api.ErrDeep, 0},
		{"sum", "  " + row("1", " + ", 65), api.ErrDeep, 2},
		{"sum", strings.Repeat("- ", 63) + "max(v)", 0, expect.None},
		{"sum", strings.Repeat("- ", 64) + "max(v)", api.ErrDeep, 0},
		{"sum", strings.Repeat("- ", 64) + "1", 0, expect.None},
		{"sum", strings.Repeat("- ", 65) + "1", api.ErrDeep, 0},
		{"sum", row("1", " + ", 65) + " )", api.ErrDeep, 0},
		{"sum", row("1", " + ", 65) + " 1", api.ErrDeep, 0},
		{"sum", row("1", " + ", 65) + " +", api.ErrSyntax, 65*4 - 3 + 2},
		{"sum", row("1", " + ", 65) + " + max(" + long + ")", api.ErrName, 65*4 - 3 + 7},
		{"sum", "(" + row("1", " + ", 65) + " 1", api.ErrSyntax, 1 + 65*4 - 3 + 1},
		{"sum", row("1", "*", 1900), api.ErrDeep, 0},
		{"sum", strings.Repeat("-", 3999) + "1", api.ErrDeep, 0},
		{"cond", strings.Repeat("NOT ", 63) + "TRUE", 0, expect.None},
		{"cond", strings.Repeat("NOT ", 64) + "TRUE", api.ErrDeep, 0},
		{"cond", strings.Repeat("NOT ", 62) + "a = ''", 0, expect.None},
		{"cond", strings.Repeat("NOT ", 63) + "a = ''", api.ErrDeep, 0},
		{"cond", strings.Repeat("NOT ", 63) + "a = '' )", api.ErrDeep, 0},
		{"cond", strings.Repeat("NOT ", 64) + "a < ''", api.ErrSyntax, 64*4 + 2},
		{"cond", row("TRUE", " OR ", 400), 0, expect.None},
		{"cond", strings.Repeat("NOT ", 999) + "TRUE", api.ErrDeep, 0},
		{"query", "SELECT 1, " + row("1", " - ", 64) + rest, 0, expect.None},
		{"query", "SELECT 1, " + row("1", " - ", 65) + rest, api.ErrDeep, 10},
		{"query", "SELECT 1, " + row("1", " - ", 65) + " nonsense", api.ErrDeep, 10},
		{"query", "SELECT 1, " + row("1", " - ", 65) + " AS " + long, api.ErrDeep, 10},
		{"query", "SELECT 1, 1 nonsense " + row("1", " - ", 65), api.ErrSyntax, 12},
		{"query", "SELECT " + strings.Repeat("1, ", 16) + row("1", " - ", 65), api.ErrLong, 7 + 16*3},
		{"query", "SELECT 1 FROM cpu WHERE " + strings.Repeat("NOT ", 63) + "TRUE GROUP BY time(1h)", 0, expect.None},
		{"query", "SELECT 1 FROM cpu WHERE " + strings.Repeat("NOT ", 64) + "TRUE GROUP BY time(1h)", api.ErrDeep, 24},
		{"query", "SELECT 1 FROM cpu WHERE " + strings.Repeat("NOT ", 64) + "TRUE nonsense", api.ErrDeep, 24},
		{"query", "SELECT 1 FROM cpu WHERE " + strings.Repeat("NOT ", 64) + "TRUE", api.ErrDeep, 24},
	} {
		_, err := face(t, c.rule, c.s)
		fails(t, c.s, err, c.e, c.pos)
	}
}

// P14.3: the deepest trees come back from their texts, with all the brackets that these have.
func TestDeepest(t *testing.T) {
	sum, product, cond := []api.Node{sample.Int(1)}, []api.Node{sample.Int(1)}, []api.Node{sample.Node(api.OpTrue, 0)}
	for range api.MaxDeep - 1 {
		sum = sample.Over(api.OpNeg, sum)
		product = sample.Over(api.OpSub, []api.Node{sample.Call(api.Min, "v")}, product)
		cond = sample.Over(api.OpOr, []api.Node{sample.Node(api.OpFalse, 0)}, cond)
	}
	treeHolds(t, "a sum", sum, ast.PrintSum, Sum)
	treeHolds(t, "a product", product, ast.PrintSum, Sum)
	treeHolds(t, "a condition", cond, ast.PrintCond, Cond)
}

// P14.1: a query may be too long in the form in which it is printed.
func TestPrintedTooLong(t *testing.T) {
	for _, c := range []struct{ first, more string }{
		{"SELECT 1 FROM cpu WHERE time=1h", " or time=1h"},
		{"SELECT 1 FROM cpu WHERE a='x'", " or a='x'"},
	} {
		short, long := 0, 0
		for n := range 500 {
			s := c.first + strings.Repeat(c.more, n) + " GROUP BY time(1h)"
			if len(s) > api.MaxQuery {
				break
			}
			q, err := Query(s)
			l, bad := Cond(strings.TrimSuffix(strings.TrimPrefix(s, "SELECT 1 FROM cpu WHERE "), " GROUP BY time(1h)"))
			if bad != nil {
				t.Fatal(bad)
			}
			text, _ := ast.PrintCond(l)
			var e api.Errno
			if size := len("SELECT 1 FROM cpu WHERE " + text + " GROUP BY time(1h)"); size > api.MaxQuery {
				e = api.ErrLong
				long++
			} else {
				short++
			}
			fails(t, s, err, e, expect.None)
			if err != nil && !empty(q) {
				t.Errorf("%v beside an error", q)
			}
		}
		if short < 50 || long < 50 {
			t.Errorf("%d were short, %d long", short, long)
		}
	}
}

// P14.1: names and texts at their edges, wherever they stand.
func TestNames(t *testing.T) {
	for _, at := range []struct {
		ahead, behind string
		measure       bool
	}{
		{"SELECT max(", ")" + rest, false},
		{"SELECT 1 AS ", rest, false},
		{"SELECT 1 INTO ", rest, true},
		{"SELECT 1 FROM ", " GROUP BY time(1h)", true},
		{"SELECT 1" + rest + ", ", "", false},
		{"SELECT 1 FROM cpu WHERE ", " = 'a' GROUP BY time(1h)", false},
		{"SELECT 1 FROM cpu WHERE 'a' = ", " GROUP BY time(1h)", false},
		{"SELECT 1 FROM cpu WHERE ", " IN ('a') GROUP BY time(1h)", false},
	} {
		for name, right := range map[string]bool{
			"a": true, "_": true, "count": true, "last": true, strings.Repeat("n", 64): true, `"` + strings.Repeat("é", 32) + `"`: true, `"Time"`: true, `"from"`: true, `" "`: true, `"'"`: true, `"-"`: true, `"("`: true, `"not"`: true, `"5"`: true, `"1h"`: true, `"TRUE"`: true,
			`"time"`: at.measure, `""`: false, strings.Repeat("n", 65): false, `"` + strings.Repeat("é", 32) + `n"`: false, "\"\x1f\"": false, "\"\x7f\"": false, "\"\xc3\"": false,
		} {
			s := at.ahead + name + at.behind
			_, err := Query(s)
			if right {
				fails(t, s, err, 0, expect.None)
			} else {
				fails(t, s, err, api.ErrName, len(at.ahead))
			}
		}
		for _, word := range []string{"select", "AS", "into", "from", "where", "group", "by", "fill", "and", "or", "in", "*", ",", "="} {
			s := at.ahead + word + at.behind
			_, err := Query(s)
			fails(t, s, err, api.ErrSyntax, len(at.ahead))
		}
	}
	for _, at := range []struct{ ahead, behind string }{{"a = ", ""}, {"", " = a"}, {"", " IN ('')"}, {"a IN (", ")"}, {"a IN ('', ", ")"}} {
		for text, right := range map[string]bool{
			"''": true, "'a'": true, "'" + strings.Repeat("t", 256) + "'": true, "'time'": true, "'\"'": true, "'" + strings.Repeat("t", 257) + "'": false, "'\x00'": false, "'\x7f'": false, "'a\xff'": false,
		} {
			s := at.ahead + text + at.behind
			_, err := Cond(s)
			if right {
				fails(t, s, err, 0, expect.None)
			} else {
				fails(t, s, err, api.ErrText, len(at.ahead))
			}
		}
	}
}

// turned is a word in other letters, if it is one of the language or a function.
func turned(d sample.Draw, word string) string {
	letters := []byte(word)
	for i, c := range letters {
		if d(2) == 0 && ('a' <= c && c <= 'z' || 'A' <= c && c <= 'Z') {
			letters[i] = c ^ 32
		}
	}
	return string(letters)
}

// P14.6: blanks, and the case of letters, change places alone.
func TestBlanksAndCase(t *testing.T) {
	d := draw()
	seen := 0
	for range 3000 {
		q := d.Query()
		s, err := ast.Print(q)
		if err != nil {
			continue
		}
		var row []string
		l := tokens(t, s)
		for i, x := range l[:len(l)-1] {
			word := strings.Trim(s[x.Pos:l[i+1].Pos], " ")
			function := x.Kind == api.Word && l[i+1].Text == "(" && l[i+1].Kind == api.Sign
			if x.Kind == api.Word && (fits("'"+word+"'", x) && language(word) || function || word == "last" && l[i-1].Text == "(" && strings.EqualFold(l[i-2].Text, "fill")) {
				word = turned(d, word)
			}
			row = append(row, word)
		}
		other := write(d, row)
		if len(other) > api.MaxQuery {
			continue
		}
		seen++
		again, err := Query(other)
		if err != nil || !ast.Alike(q, again) {
			t.Fatalf("%q is read as %v, not %v: %v", other, again, q, err)
		}
	}
	if seen < 2000 {
		t.Errorf("%d texts", seen)
	}
}

func language(word string) bool {
	return strings.Contains(" select as into from where group by time fill and or not in true false ", " "+strings.ToLower(word)+" ")
}

// P3: no two lists of an answer share memory, and none is answered twice.
func TestMemory(t *testing.T) {
	const s = "SELECT 1 + 2, 3, max(v) FROM cpu WHERE a = 'x' AND b = 'y' GROUP BY time(1h), a, b"
	q, _ := Query(s)
	again, _ := Query(s)
	want := ast.Copy(q)
	for i := range q.Items {
		q.Items[i].Tree = append(q.Items[i].Tree, api.Node{Op: 99}, api.Node{Op: 99})
	}
	q.Where = append(q.Where, api.Node{Op: 99}, api.Node{Op: 99})
	for i := range q.Items {
		q.Items[i].Tree = q.Items[i].Tree[:len(want.Items[i].Tree)]
	}
	q.Where = q.Where[:len(want.Where)]
	if !reflect.DeepEqual(q, want) || !reflect.DeepEqual(again, want) {
		t.Errorf("%v, %v, not %v", q, again, want)
	}
	for i := range q.Where {
		q.Where[i] = api.Node{}
	}
	for i := range q.Items {
		clear(q.Items[i].Tree)
	}
	if !reflect.DeepEqual(again, want) {
		t.Errorf("%v, not %v", again, want)
	}
}
