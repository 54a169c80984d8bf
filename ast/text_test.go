package ast

import (
	"slices"
	"strings"
	"testing"

	"weir/api"
	"weir/expect"
	"weir/lex"
	"weir/sample"
)

// The chapter's first two examples, and each way in which a kid may stand.
func TestExamples(t *testing.T) {
	a, b, c, v := []api.Node{sample.Call(api.Count, "a")}, []api.Node{sample.Call(api.Count, "b")}, []api.Node{sample.Call(api.Count, "c")}, []api.Node{sample.Call(api.Max, "v")}
	five, least := []api.Node{sample.Int(5)}, []api.Node{sample.Int(-5)}
	yes, no := []api.Node{sample.Node(api.OpTrue, 0)}, []api.Node{sample.Node(api.OpFalse, 0)}
	host := sample.Above(api.OpEq, sample.Tag("host"), sample.Text("a"))
	now := []api.Node{sample.Node(api.OpClock, 0)}
	for _, x := range []struct {
		l    []api.Node
		want string
	}{
		{sample.Over(api.OpAdd, []api.Node{sample.Int(1)}, sample.Above(api.OpMul, sample.Int(-2), sample.Call(api.Mean, "v"))), "1 + -2 * mean(v)"},
		{sample.Over(api.OpNeg, five), "-(5)"},
		{sample.Over(api.OpNeg, least), "-(-5)"},
		{sample.Over(api.OpNeg, v), "-max(v)"},
		{sample.Over(api.OpNeg, sample.Over(api.OpNeg, v)), "-(-max(v))"},
		{sample.Over(api.OpNeg, sample.Over(api.OpMul, v, five)), "-(max(v) * 5)"},
		{sample.Over(api.OpSub, a, sample.Over(api.OpSub, b, c)), "count(a) - (count(b) - count(c))"},
		{sample.Over(api.OpSub, sample.Over(api.OpSub, a, b), c), "count(a) - count(b) - count(c)"},
		{sample.Over(api.OpAdd, a, sample.Over(api.OpMul, b, c)), "count(a) + count(b) * count(c)"},
		{sample.Over(api.OpMul, sample.Over(api.OpAdd, a, b), c), "(count(a) + count(b)) * count(c)"},
		{sample.Over(api.OpDiv, sample.Over(api.OpMod, a, b), c), "count(a) % count(b) / count(c)"},
		{sample.Over(api.OpDiv, a, sample.Over(api.OpMod, b, c)), "count(a) / (count(b) % count(c))"},
		{sample.Over(api.OpMod, sample.Over(api.OpNeg, a), sample.Over(api.OpNeg, b)), "-count(a) % -count(b)"},
		{sample.Over(api.OpSub, least, least), "-5 - -5"},
		{[]api.Node{sample.Call(api.TotalOf, "select")}, `sum("select")`},
		{[]api.Node{sample.Call(api.Spread, "a b")}, `spread("a b")`},
		{sample.Over(api.OpAnd, sample.Over(api.OpOr, yes, no), sample.Over(api.OpNot, host)), "(TRUE OR FALSE) AND NOT host = 'a'"},
		{[]api.Node{sample.Node(api.OpIn, 3), sample.Tag("zone"), sample.Text("x"), sample.Text("it's")}, `zone IN ('x', 'it\'s')`},
		{sample.Over(api.OpGe, now, []api.Node{sample.Time(-5)}), "time >= -5"},
		{sample.Over(api.OpOr, sample.Over(api.OpAnd, yes, no), sample.Over(api.OpOr, yes, no), sample.Over(api.OpNot, sample.Over(api.OpOr, yes, no))), "TRUE AND FALSE OR (TRUE OR FALSE) OR NOT (TRUE OR FALSE)"},
		{sample.Over(api.OpAnd, sample.Over(api.OpAnd, yes, no), sample.Over(api.OpNot, sample.Over(api.OpAnd, yes, no))), "(TRUE AND FALSE) AND NOT (TRUE AND FALSE)"},
		{sample.Over(api.OpNot, sample.Over(api.OpNot, yes)), "NOT NOT TRUE"},
		{sample.Above(api.OpNe, sample.Tag("TIME"), sample.Text("")), `"TIME" != ''`},
	} {
		got, err := PrintSum(x.l)
		if Cond(x.l) == nil {
			got, err = PrintCond(x.l)
		}
		if got != x.want || err != nil {
			t.Errorf("%q, not %q: %v", got, x.want, err)
		}
	}
}

// P13.5, P13.9: the texts of any trees against those that the model tells.
func TestAnyTexts(t *testing.T) {
	d := draw()
	for range 20000 {
		l := sample.One(d, d.Sum(1+d(6)), d.Cond(1+d(6)))
		if d(3) == 0 {
			l = d.Spoil(l)
		}
		textHolds(t, l, PrintSum, Sum, sumText)
		textHolds(t, l, PrintCond, Cond, condText)
	}
	for _, levels := range []int{64, 65} {
		sums, conds := chains(levels)
		for i := range sums {
			textHolds(t, sums[i], PrintSum, Sum, sumText)
			textHolds(t, conds[i], PrintCond, Cond, condText)
		}
	}
}

func textHolds(t *testing.T, l []api.Node, ask func([]api.Node) (string, error), right func([]api.Node) error, model func(sample.Tree) string) {
	t.Helper()
	want := ""
	if right(l) == nil {
		g := sample.Grown(l)
		want = model(g)
	}
	got, err := ask(l)
	if got != want || (err == nil) != (right(l) == nil) {
		t.Fatalf("%v: %q, not %q: %v", l, got, want, err)
	}
	if err != nil {
		var e api.Errno = api.ErrTree
		if Depth(l) > api.MaxDeep {
			e = api.ErrDeep
		}
		fails(t, l, err, e, expect.None)
	}
	blanks(t, got)
}

// blanks holds P13.9 of a text: without what stands in quotes.
func blanks(t *testing.T, s string) {
	t.Helper()
	bare := ""
	for at := 0; at < len(s); {
		token, end, err := lex.Next(s, at)
		if err != nil {
			t.Fatalf("%q: %v", s, err)
		}
		bare += s[at:token.Pos] + "x"
		at = end
	}
	if strings.Contains(bare, "  ") || strings.Trim(s, " ") != s || strings.ContainsAny(bare, "\t\n\r") {
		t.Fatalf("%q", s)
	}
}

// all are all right trees of just so many nodes, of a few of each kind.
func all(size int, leaves []api.Node, ops map[api.Op]int) [][]api.Node {
	var trees [][]api.Node
	for _, n := range leaves {
		if size == 1 {
			trees = append(trees, []api.Node{n})
		}
	}
	for op, kids := range ops {
		for _, row := range rows(size-1, kids, leaves, ops) {
			trees = append(trees, append([]api.Node{sample.Node(op, kids)}, row...))
		}
	}
	return trees
}

// rows are all rows of so many trees that have so many nodes together.
func rows(size, trees int, leaves []api.Node, ops map[api.Op]int) [][]api.Node {
	if trees == 0 {
		if size == 0 {
			return [][]api.Node{nil}
		}
		return nil
	}
	var found [][]api.Node
	for first := 1; first <= size; first++ {
		for _, a := range all(first, leaves, ops) {
			for _, b := range rows(size-first, trees-1, leaves, ops) {
				found = append(found, slices.Concat(a, b))
			}
		}
	}
	return found
}

// P13.7: no two trees have one text.
func TestUnlikeTexts(t *testing.T) {
	seen := map[string][]api.Node{}
	see := func(l []api.Node, s string, err error) {
		if err != nil || seen[s] != nil {
			t.Fatalf("%q: %v and %v: %v", s, l, seen[s], err)
		}
		seen[s] = l
	}
	for size := range 6 {
		for _, l := range all(size, []api.Node{sample.Int(5), sample.Int(-5), sample.Call(api.Max, "v")}, map[api.Op]int{api.OpNeg: 1, api.OpAdd: 2, api.OpSub: 2, api.OpMul: 2, api.OpMod: 2}) {
			s, err := PrintSum(l)
			see(l, s, err)
		}
	}
	if len(seen) < 1000 {
		t.Errorf("%d sums", len(seen))
	}
	clear(seen)
	for size := range 7 {
		leaves := []api.Node{sample.Node(api.OpTrue, 0), sample.Node(api.OpFalse, 0)}
		for _, l := range all(size, leaves, map[api.Op]int{api.OpNot: 1, api.OpAnd: 2, api.OpOr: 2}) {
			s, err := PrintCond(l)
			see(l, s, err)
		}
		for _, l := range all(size, leaves, map[api.Op]int{api.OpAnd: 3, api.OpOr: 2}) {
			if slices.ContainsFunc(l, func(n api.Node) bool { return n.Op == api.OpAnd }) {
				s, err := PrintCond(l)
				see(l, s, err)
			}
		}
	}
	if len(seen) < 500 {
		t.Errorf("%d conditions", len(seen))
	}
}
