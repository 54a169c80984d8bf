package check

import (
	"math/rand"
	"strings"
	"testing"

	"weir/api"
	"weir/expect"
	"weir/parse"
	"weir/sample"
)

// told is an error as it must be: its number, its place, its index.
type told struct {
	e          api.Errno
	pos, index int
}

// plainly is an error without a place and an index.
func plainly(e api.Errno) told { return told{e, expect.None, expect.None} }

// at is one with a place, in is one with an index.
func at(pos int, e api.Errno) told { return told{e, pos, expect.None} }

func in(index int, e api.Errno) told { return told{e, expect.None, index} }

// right is none.
func right() told { return plainly(0) }

// fails holds an error against what it must be.
func fails(t *testing.T, what any, err error, want told) {
	t.Helper()
	if wrong := expect.Wrong(err, want.e, want.pos, want.index); wrong != "" {
		t.Errorf("%.300v: %v: %s", what, err, wrong)
	}
}

// draw draws from a source with a fixed seed, so that each run draws the same.
func draw() sample.Draw { return rand.New(rand.NewSource(1970)).Intn }

// asked is the query of a text.
func asked(t *testing.T, text string) api.Query {
	t.Helper()
	q, err := parse.Query(text)
	if err != nil {
		t.Fatalf("%s: %v", text, err)
	}
	return q
}

// cpu is the schema of the chapter's examples, with a table behind it.
func cpu() []api.Table {
	return []api.Table{
		{Measure: "cpu", Tags: []string{"host", "zone"}, Fields: []string{"v", "w"}},
		{Measure: "mem", Fields: []string{"used"}},
	}
}

// many are so many names.
func many(n int) []string {
	var l []string
	for i := range n {
		l = append(l, "n"+strings.Repeat("x", i))
	}
	return l
}

// isName tells DOC.md's word anew.
func isName(s string) bool {
	odd := func(r rune) bool { return r < 32 || r == 127 }
	return s != "" && len(s) <= 64 && s == strings.ToValidUTF8(s, "") && strings.IndexFunc(s, odd) < 0
}

// badNames are none; badColumns may not be tags, fields or items.
func badNames() []string {
	return []string{"", "a\x00", "a\n", "\x7f", "\xff", strings.Repeat("n", api.MaxName+1)}
}

func badColumns() []string { return append(badNames(), "time") }
