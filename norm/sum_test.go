package norm

import (
	"math"
	"math/big"
	"slices"
	"testing"

	"weir/api"
	"weir/ast"
	"weir/sample"
)

// sumFolded is a sum folded, as the chapter tells it.
func (g grown) sumFolded() grown {
	all := grown{Node: g.Node}
	for _, kid := range g.kids {
		all.kids = append(all.kids, kid.sumFolded())
	}
	if len(all.kids) == 0 || slices.ContainsFunc(all.kids, func(kid grown) bool { return kid.Op != api.OpInt }) {
		return all
	}
	var numbers []*big.Int
	for _, kid := range all.kids {
		numbers = append(numbers, big.NewInt(kid.N))
	}
	n := sample.Reckoned(g.Op, numbers...)
	if n == nil || !n.IsInt64() || n.Int64() == math.MinInt64 {
		return all
	}
	return grown{Node: api.Node{Op: api.OpInt, N: n.Int64()}}
}

// someSum draws a right sum of few names.
func someSum(d sample.Draw, levels int) []api.Node {
	l := d.Sum(levels)
	for i := range l {
		n := &l[i]
		n.Pos = d(99)
		switch n.Op {
		case api.OpCall:
			n.Func, n.S = api.Func(1+d(3)), sample.One(d, "v", "w")
		case api.OpInt:
			n.N = sample.One(d, n.N, 0, 1, 2, 3, -1, -2, -7, 10)
		}
	}
	return l
}

// The chapter's third example, and the edges.
func TestSums(t *testing.T) {
	for s, want := range map[string]string{
		"(2 + 3) * max(v)":               "5 * max(v)",
		"1 / 0":                          "1 / 0",
		"1 % 0":                          "1 % 0",
		"max(v) + 1 + 2":                 "max(v) + 1 + 2",
		"1 + 2 + max(v)":                 "3 + max(v)",
		"max(v) * 0":                     "max(v) * 0",
		"7 / 2":                          "3",
		"-7 / 2":                         "-4",
		"7 / -2":                         "-4",
		"-7 % 2":                         "1",
		"7 % -2":                         "-1",
		"-(5)":                           "-5",
		"-(-5)":                          "5",
		"--5":                            "5",
		"-(2 + 3)":                       "-5",
		"-max(v)":                        "-max(v)",
		"-(-max(v))":                     "-(-max(v))",
		"1 - 2 - 3":                      "-4",
		"9223372036854775807 + 1":        "9223372036854775807 + 1",
		"9223372036854775806 + 1":        "9223372036854775807",
		"-9223372036854775807 - 1":       "-9223372036854775807 - 1",
		"-9223372036854775806 - 1":       "-9223372036854775807",
		"-4611686018427387904 * 2":       "-4611686018427387904 * 2",
		"9223372036854775807 + 1 - 1":    "9223372036854775807 + 1 - 1",
		"1 / (2 - 2) + 3 * 4":            "1 / 0 + 12",
		"-(9223372036854775807)":         "-9223372036854775807",
		"-9223372036854775807 / -1":      "9223372036854775807",
		"(1 + 2) * (3 + count(v)) - 2*3": "3 * (3 + count(v)) - 6",
	} {
		l := sumOf(t, s)
		got, err := FoldSum(l)
		fails(t, s, err, 0)
		if text, bad := ast.PrintSum(got); text != want || bad != nil {
			t.Errorf("%s: %s, not %s: %v", s, text, want, bad)
		}
	}
}

// P16.2, P16.3, P16.8: any sums.
func TestAnySums(t *testing.T) {
	d := draw()
	changed, marks := 0, 0
	for i := range 60000 {
		l := someSum(d, 1+i%6)
		got, err := FoldSum(l)
		fails(t, l, err, 0)
		if want := grow(l).sumFolded().flat(); !slices.Equal(got, want) {
			t.Fatalf("%v: %v, not %v", l, got, want)
		}
		if ast.Sum(got) != nil || ast.Depth(got) > ast.Depth(l) {
			t.Fatalf("%v: %v", l, got)
		}
		if again, err := FoldSum(got); err != nil || !slices.Equal(got, again) {
			t.Fatalf("%v: %v, then %v", l, got, again)
		}
		if !ast.Same(got, l) {
			changed++
		}
		calls := map[api.Node]api.Told{}
		for _, call := range ast.Calls(l) {
			value := sample.One(d, api.Value{N: d.Number()}, api.Value{N: math.MinInt64}, api.Value{}, api.Value{Kind: api.Over}, api.Value{Kind: api.Void})
			calls[api.Node{Func: call.Func, S: call.S}] = api.Told{Some: d(6) > 0, Value: value}
		}
		told := func(call api.Node) api.Told { return calls[api.Node{Func: call.Func, S: call.S}] }
		a, b := sample.Tell(l, told), sample.Tell(got, told)
		if a != b {
			t.Fatalf("%v: %v, but %v of %v", l, a, b, got)
		}
		if a.Some && a.Value.Kind != api.Int {
			marks++
		}
	}
	if changed < 10000 || marks < 10000 {
		t.Errorf("%d changed, %d marks", changed, marks)
	}
}

// P16.2: lists of nodes that are no sum, and sums that are too deep.
func TestNoSum(t *testing.T) {
	d := draw()
	for range 20000 {
		l := d.Spoil(someSum(d, 4))
		if err := ast.Sum(l); err != nil {
			got, err := FoldSum(l)
			fails(t, l, err, api.ErrTree)
			if len(got) != 0 {
				t.Fatalf("%v beside an error", got)
			}
		}
	}
	deep := []api.Node{sample.Int(1)}
	for range api.MaxDeep - 1 {
		deep = sample.Over(api.OpNeg, deep)
	}
	if l, err := FoldSum(deep); err != nil || !slices.Equal(l, []api.Node{sample.Int(-1)}) {
		t.Errorf("%v, %v", l, err)
	}
	for _, c := range []struct {
		l []api.Node
		e api.Errno
	}{{sample.Over(api.OpNeg, deep), api.ErrDeep}, {nil, api.ErrTree}, {condOf(t, "a = 'x'"), api.ErrTree}, {[]api.Node{{Op: api.OpAcc}}, api.ErrTree}} {
		l, err := FoldSum(c.l)
		fails(t, c.l, err, c.e)
		if len(l) != 0 {
			t.Errorf("%v beside an error", l)
		}
	}
}

// P3: what is handed in stays, and what is told lies by itself.
func TestSumMemory(t *testing.T) {
	d := draw()
	for range 5000 {
		l := someSum(d, 5)
		l = append(l, api.Node{Pos: 77})[:len(l)]
		before := slices.Clone(l[:len(l)+1])
		got, _ := FoldSum(l)
		for i := range got {
			got[i].S = "changed"
		}
		_ = append(got, api.Node{Pos: 88})
		if !slices.Equal(before, l[:len(l)+1]) {
			t.Fatalf("%v, not %v", l[:len(l)+1], before)
		}
	}
}
