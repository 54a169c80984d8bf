package parse

import (
	goast "go/ast"
	goparser "go/parser"
	gotoken "go/token"
	"slices"
	"strconv"
	"strings"
	"testing"

	"weir/api"
	"weir/expect"
	"weir/sample"
)

// gone is an expression as Go reads it, with its places in the text.
type gone struct {
	set    *gotoken.FileSet
	leaves map[int][]api.Node // of conditions: what a name at a place stands for
}

func asGo(t *testing.T, s string) (gone, goast.Expr) {
	t.Helper()
	g := gone{set: gotoken.NewFileSet()}
	e, err := goparser.ParseExprFrom(g.set, "", s, 0)
	if err != nil {
		t.Fatalf("%q: %v", s, err)
	}
	return g, e
}

func (g gone) at(p gotoken.Pos) int { return g.set.Position(p).Offset }

func number(e *goast.BasicLit) int64 {
	n, err := strconv.ParseInt(e.Value, 10, 64)
	if err != nil {
		panic(err)
	}
	return n
}

var goOps = map[gotoken.Token]api.Op{gotoken.ADD: api.OpAdd, gotoken.SUB: api.OpSub, gotoken.MUL: api.OpMul, gotoken.QUO: api.OpDiv, gotoken.REM: api.OpMod}

// sum is the tree that a sum says: Go's operators bind as the chapter's do.
func (g gone) sum(e goast.Expr) []api.Node {
	switch x := e.(type) {
	case *goast.ParenExpr:
		return g.sum(x.X)
	case *goast.BasicLit:
		return []api.Node{{Op: api.OpInt, N: number(x), Pos: g.at(x.Pos())}}
	case *goast.CallExpr:
		name := strings.ToLower(x.Fun.(*goast.Ident).Name)
		f := slices.Index([]string{"", "count", "sum", "mean", "min", "max", "first", "last", "spread"}, name)
		return []api.Node{{Op: api.OpCall, Func: api.Func(f), S: x.Args[0].(*goast.Ident).Name, Pos: g.at(x.Pos())}}
	case *goast.UnaryExpr:
		if n, ok := x.X.(*goast.BasicLit); ok {
			return []api.Node{{Op: api.OpInt, N: -number(n), Pos: g.at(x.OpPos)}}
		}
		return append([]api.Node{{Op: api.OpNeg, Kids: 1, Pos: g.at(x.OpPos)}}, g.sum(x.X)...)
	case *goast.BinaryExpr:
		return slices.Concat([]api.Node{{Op: goOps[x.Op], Kids: 2, Pos: g.at(x.OpPos)}}, g.sum(x.X), g.sum(x.Y))
	}
	panic("no sum")
}

// cond is the tree that a condition says: Go's !, && and || bind as NOT, AND and OR do, but that rows of them are one node.
func (g gone) cond(e goast.Expr) []api.Node {
	switch x := e.(type) {
	case *goast.ParenExpr:
		return g.cond(x.X)
	case *goast.Ident:
		return g.leaves[g.at(x.Pos())]
	case *goast.UnaryExpr:
		return append([]api.Node{{Op: api.OpNot, Kids: 1, Pos: g.at(x.OpPos)}}, g.cond(x.X)...)
	case *goast.BinaryExpr:
		kids := [][]api.Node{g.cond(x.Y)}
		first := x
		for inner, ok := x.X.(*goast.BinaryExpr); ok && inner.Op == x.Op; inner, ok = first.X.(*goast.BinaryExpr) {
			first = inner
			kids = append(kids, g.cond(inner.Y))
		}
		kids = append(kids, g.cond(first.X))
		slices.Reverse(kids)
		op := map[gotoken.Token]api.Op{gotoken.LAND: api.OpAnd, gotoken.LOR: api.OpOr}[x.Op]
		return append([]api.Node{{Op: op, Kids: len(kids), Pos: g.at(first.OpPos)}}, slices.Concat(kids...)...)
	}
	panic("no condition")
}

// exactly holds a tree against another one, places too.
func exactly(t *testing.T, s string, got []api.Node, err error, want []api.Node) {
	t.Helper()
	if err != nil || !slices.Equal(got, want) {
		t.Fatalf("%q: %v, not %v: %v", s, got, want, err)
	}
}

// sumRow draws a sum with brackets where none are needed.
func sumRow(d sample.Draw, levels int) []string {
	kind := d(9)
	switch {
	case levels == 0 || kind < 2:
		return sample.One(d, []string{strconv.Itoa(d(20))}, []string{spell(d, "'"+sample.One(d, "mean", "Max", "SUM", "spread", "min", "count", "first", "last")+"'"), "(", sample.One(d, "v", "w", "mean"), ")"})
	case kind < 4:
		return append([]string{"-"}, sumRow(d, levels-1)...)
	case kind < 6:
		return slices.Concat([]string{"("}, sumRow(d, levels-1), []string{")"})
	}
	return slices.Concat(sumRow(d, levels-1), []string{sample.One(d, "+", "-", "*", "/", "%")}, sumRow(d, levels-1))
}

// What a sum says, and where.
func TestSums(t *testing.T) {
	d := draw()
	for range 20000 {
		// Blanks stand everywhere, for Go takes -- for one sign.
		s := strings.Join(sumRow(d, d(6)), sample.One(d, " ", "  ", "\t"))
		g, e := asGo(t, s)
		got, err := Sum(s)
		exactly(t, s, got, err, g.sum(e))
	}
	for s, want := range map[string][]api.Node{
		"--5":                     {{Op: api.OpNeg, Kids: 1}, {Op: api.OpInt, N: -5, Pos: 1}},
		"- 5":                     {{Op: api.OpInt, N: -5}},
		"-(5)":                    {{Op: api.OpNeg, Kids: 1}, {Op: api.OpInt, N: 5, Pos: 2}},
		"1 -2":                    {{Op: api.OpSub, Kids: 2, Pos: 2}, {Op: api.OpInt, N: 1}, {Op: api.OpInt, N: 2, Pos: 3}},
		"1--2":                    {{Op: api.OpSub, Kids: 2, Pos: 1}, {Op: api.OpInt, N: 1}, {Op: api.OpInt, N: -2, Pos: 2}},
		"-0":                      {{Op: api.OpInt}},
		" 007 ":                   {{Op: api.OpInt, N: 7, Pos: 1}},
		"-max(v)":                 {{Op: api.OpNeg, Kids: 1}, {Op: api.OpCall, Func: api.Max, S: "v", Pos: 1}},
		`LAST("a \"b\"")`:         {{Op: api.OpCall, Func: api.Last, S: `a "b"`}},
		"-9223372036854775807":    {{Op: api.OpInt, N: -9223372036854775807}},
		"((9223372036854775807))": {{Op: api.OpInt, N: 9223372036854775807, Pos: 2}},
	} {
		got, err := Sum(s)
		exactly(t, s, got, err, want)
	}
}

// simples are conditions by themselves, with the places of their nodes from 0 on.
func simples() map[string][]api.Node {
	return map[string][]api.Node{
		"TRUE":                        {{Op: api.OpTrue}},
		"fAlse":                       {{Op: api.OpFalse}},
		"host = 'a'":                  {{Op: api.OpEq, Kids: 2, Pos: 5}, {Op: api.OpTag, S: "host"}, {Op: api.OpText, S: "a", Pos: 7}},
		"'x' != ''":                   {{Op: api.OpNe, Kids: 2, Pos: 4}, {Op: api.OpText, S: "x"}, {Op: api.OpText, Pos: 7}},
		"time>=-5":                    {{Op: api.OpGe, Kids: 2, Pos: 4}, {Op: api.OpClock}, {Op: api.OpTime, N: -5, Pos: 6}},
		"- 1h < 5":                    {{Op: api.OpLt, Kids: 2, Pos: 5}, {Op: api.OpTime, N: -3600000000000}, {Op: api.OpTime, N: 5, Pos: 7}},
		"zone IN ('x', 'it\\'s','')":  {{Op: api.OpIn, Kids: 4, Pos: 5}, {Op: api.OpTag, S: "zone"}, {Op: api.OpText, S: "x", Pos: 9}, {Op: api.OpText, S: "it's", Pos: 14}, {Op: api.OpText, Pos: 22}},
		"Time<'1970-01-01T00:00:01Z'": {{Op: api.OpLt, Kids: 2, Pos: 4}, {Op: api.OpClock}, {Op: api.OpTime, N: 1000000000, Pos: 5}},
	}
}

// condRow draws a condition with brackets where none are needed: as it is written, and as Go writes it, in as many bytes.
func condRow(d sample.Draw, levels int) (said, goes []string) {
	kind := d(9)
	switch {
	case levels == 0 || kind < 2:
		var all []string
		for s := range simples() {
			all = append(all, s)
		}
		slices.Sort(all)
		s := sample.One(d, all...)
		return []string{s}, []string{strings.Repeat("x", len(s))}
	case kind < 4:
		said, goes = condRow(d, levels-1)
		return append([]string{"not"}, said...), append([]string{"!  "}, goes...)
	case kind < 6:
		said, goes = condRow(d, levels-1)
		return slices.Concat([]string{"("}, said, []string{")"}), slices.Concat([]string{"("}, goes, []string{")"})
	}
	a, x := condRow(d, levels-1)
	b, y := condRow(d, levels-1)
	i := d(2)
	return slices.Concat(a, []string{[]string{"And", "OR"}[i]}, b), slices.Concat(x, []string{[]string{"&& ", "||"}[i]}, y)
}

// What a condition says, and where.
func TestConds(t *testing.T) {
	d := draw()
	for range 20000 {
		said, goes := condRow(d, d(6))
		s := strings.Join(said, " ")
		g, e := asGo(t, strings.Join(goes, " "))
		g.leaves = map[int][]api.Node{}
		at := 0
		for _, piece := range said {
			for _, n := range simples()[piece] {
				n.Pos += at
				g.leaves[at] = append(g.leaves[at], n)
			}
			at += len(piece) + 1
		}
		got, err := Cond(s)
		exactly(t, s, got, err, g.cond(e))
	}
}

// What two operands say, with each sign between: of all pairs, the right ones.
func TestComparisons(t *testing.T) {
	words := map[string]api.Node{"host": sample.Tag("host"), `"a b"`: sample.Tag("a b"), "'x'": sample.Text("x"), "''": sample.Text("")}
	moments := map[string]api.Node{"time": {Op: api.OpClock}, "TIME": {Op: api.OpClock}, "5": sample.Time(5), "-5": sample.Time(-5), "5m": sample.Time(300000000000), "-5m": sample.Time(-300000000000), "-0s": sample.Time(0)}
	dates := map[string]int64{"'1970-01-01T00:00:01Z'": 1e9, "'1677-09-21T00:12:43.145224193Z'": -9223372036854775807, "'2262-04-11T23:47:16.854775807Z'": 9223372036854775807}
	signs := map[string]api.Op{"=": api.OpEq, "!=": api.OpNe, "<": api.OpLt, "<=": api.OpLe, ">": api.OpGt, ">=": api.OpGe}
	check := func(a, sign, b string, first, second api.Node) {
		t.Helper()
		s := a + " " + sign + " " + b
		second.Pos = len(a) + len(sign) + 2
		got, err := Cond(s)
		exactly(t, s, got, err, []api.Node{{Op: signs[sign], Kids: 2, Pos: len(a) + 1}, first, second})
	}
	for sign, op := range signs {
		for a, first := range words {
			for b, second := range words {
				if op == api.OpEq || op == api.OpNe {
					check(a, sign, b, first, second)
				}
			}
		}
		for a, first := range moments {
			for b, second := range moments {
				check(a, sign, b, first, second)
			}
		}
		for date, n := range dates {
			check("time", sign, date, api.Node{Op: api.OpClock}, sample.Time(n))
			check(date, sign, "time", sample.Time(n), api.Node{Op: api.OpClock})
		}
		// Beside a number or a tag a date is a text like others.
		if op == api.OpEq {
			date := "1970-01-01T00:00:01Z"
			check("host", sign, "'"+date+"'", sample.Tag("host"), sample.Text(date))
			_, err := Cond("5 = '" + date + "'")
			fails(t, "a number beside a date", err, api.ErrSyntax, 4)
		}
	}
	for a, first := range words {
		got, err := Cond(a + " IN ('x')")
		exactly(t, a, got, err, []api.Node{{Op: api.OpIn, Kids: 2, Pos: len(a) + 1}, first, {Op: api.OpText, S: "x", Pos: len(a) + 5}})
	}
	_, err := Cond("host IN ('1970-01-01T00:00:01Z')")
	fails(t, "a date in a list", err, 0, expect.None)
}
