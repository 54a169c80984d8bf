package parse

import (
	"math/rand"
	"strings"
	"testing"

	"weir/api"
	"weir/ast"
	"weir/expect"
	"weir/lex"
	"weir/sample"
)

// draw draws from a source with a fixed seed, so that each run draws the same.
func draw() sample.Draw { return rand.New(rand.NewSource(1970)).Intn }

// fails holds an error against a number and a place.
func fails(t *testing.T, s string, err error, e api.Errno, pos int) {
	t.Helper()
	if wrong := expect.Wrong(err, e, pos, expect.None); wrong != "" {
		t.Errorf("%q: %v: %s", s, err, wrong)
	}
}

// face reads a text by one of the package's functions, and answers the trees that were found.
func face(t *testing.T, rule, s string) ([][]api.Node, error) {
	t.Helper()
	var l []api.Node
	var err error
	switch rule {
	case "sum":
		l, err = Sum(s)
	case "cond":
		l, err = Cond(s)
	default:
		q, err := Query(s)
		if err != nil && !empty(q) {
			t.Errorf("%q: %v beside an error", s, q)
		}
		trees := [][]api.Node{q.Where}
		for _, item := range q.Items {
			trees = append(trees, item.Tree)
		}
		return trees, err
	}
	if err != nil && len(l) != 0 {
		t.Errorf("%q: %v beside an error", s, l)
	}
	return [][]api.Node{l}, err
}

func empty(q api.Query) bool {
	return ast.Alike(q, api.Query{}) && q.Into.Pos+q.From.Pos+q.EveryPos+q.FillPos == 0
}

// names, texts, numbers and spans as they may be written: first those that may stand anywhere.
var (
	names = []string{"v", "w", "host", "mean", "LAST", "Sum", `"a b"`, `"select"`, `"TIME"`, `"é"`, `"a\"b\\"`, strings.Repeat("n", 64),
		`"time"`, `""`, "\"a\nb\"", "\"\xff\"", strings.Repeat("n", 65)}
	texts = []string{"'a'", "''", `'it\'s'`, "'time'", "'" + strings.Repeat("t", 256) + "'", "'1970-01-01T00:00:01Z'", "'2024-02-29T12:00:00.5+01:00'",
		"'1677-09-21T00:12:43.145224193Z'", "'1677-09-21T00:12:43.145224192Z'", "'2262-04-11T23:47:16.854775807Z'", "'2262-04-11T23:47:16.854775808Z'",
		"'a\x00'", "'\xff'", "'" + strings.Repeat("t", 257) + "'"}
	numbers = []string{"0", "5", "007", "9223372036854775807"}
	spans   = []string{"1h", "5m", "90m", "0s", "1ns", "288230376151711744ns", "288230376151711745ns", "1h30m", "9223372036854775807ns"}
	others  = []string{"select", "FROM", "where", "group", "By", "time", "fill", "and", "OR", "not", "in", "true", "False", "into", "as",
		",", "(", ")", "+", "-", "*", "/", "%", "=", "!=", "<", "<=", ">", ">=", "last", "max"}
)

// spell draws one of the ways to write what a grammar's word means: mostly one that may stand anywhere.
func spell(d sample.Draw, word string) string {
	switch word {
	case "name":
		return sample.One(d, names[:12+d(20)/19*(len(names)-12)]...)
	case "text":
		return sample.One(d, texts[:8+d(4)/3*(len(texts)-8)]...)
	case "number":
		return sample.One(d, numbers...)
	case "span":
		return sample.One(d, spans...)
	}
	itself := strings.Trim(word, "'")
	return sample.One(d, itself, strings.ToLower(itself), strings.ToUpper(itself), strings.Title(strings.ToLower(itself)))
}

// derive draws a row that the grammar has, or the beginning of a long one.
func derive(d sample.Draw, n *network, rule string) []string {
	place := string(n.start[rule])
	var row []string
	for len(row) < 80 {
		m := sample.One(d, n.moves(place)...)
		if m.word == "" {
			break
		}
		row = append(row, spell(d, m.word))
		place = m.next
	}
	return row
}

// damage draws a row with one of its tokens taken out, put in, or changed.
func damage(d sample.Draw, row []string) []string {
	at := d(len(row) + 1)
	rest := row[at:]
	if len(rest) > 0 && d(3) > 0 {
		rest = rest[1:]
	}
	changed := append([]string{}, row[:at]...)
	if d(4) > 0 {
		changed = append(changed, sample.One(d, sample.One(d, names...), sample.One(d, texts...), sample.One(d, numbers...), sample.One(d, spans...), sample.One(d, others...), sample.One(d, others...)))
	}
	return append(changed, rest...)
}

// write is a row as a text, with any blanks between.
func write(d sample.Draw, row []string) string {
	var s strings.Builder
	for i, word := range row {
		if i > 0 && !(strings.ContainsAny(word+row[i-1], "(),") && d(2) == 0) {
			s.WriteString(sample.One(d, " ", " ", " ", "  ", "\n", "\t", "\r\n"))
		}
		s.WriteString(word)
	}
	return s.String()
}

// tokens are those of a text that has no fault in them.
func tokens(t *testing.T, s string) []api.Token {
	t.Helper()
	l, err := lex.All(s)
	if err != nil {
		t.Fatalf("%q: %v", s, err)
	}
	return l
}
