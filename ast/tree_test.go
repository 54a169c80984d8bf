package ast

import (
	"math"
	"slices"
	"testing"

	"weir/api"
	"weir/expect"
	"weir/sample"
)

// holds holds all that is asked of any nodes against the model.
func holds(t *testing.T, l []api.Node) {
	t.Helper()
	for at := range len(l) + 1 {
		g, rest, whole := sample.Grow(l[at:])
		end, kids := 0, []int(nil)
		if whole {
			end = len(l) - len(rest)
			behind := l[at+1:]
			for range g.Under {
				kids = append(kids, len(l)-len(behind))
				_, behind, _ = sample.Grow(behind)
			}
		}
		if got := End(l, at); got != end {
			t.Fatalf("%v: the tree at %d ends at %d, not at %d", l, at, got, end)
		}
		if got := Kids(l, at); !slices.Equal(got, kids) {
			t.Fatalf("%v: the kids at %d are at %v, not at %v", l, at, got, kids)
		}
	}
	g, rest, whole := sample.Grow(l)
	whole = whole && len(rest) == 0
	depth := 0
	if whole {
		depth = g.Levels()
	}
	if got := Depth(l); got != depth {
		t.Fatalf("%v has %d levels, not %d", l, got, depth)
	}
	kindHolds(t, l, Sum, whole && isSum(g), depth)
	kindHolds(t, l, Cond, whole && isCond(g), depth)
}

// kindHolds holds Sum or Cond against what it must tell.
func kindHolds(t *testing.T, l []api.Node, ask func([]api.Node) error, right bool, depth int) {
	t.Helper()
	var e api.Errno
	if !right {
		e = api.ErrTree
	} else if depth > 64 {
		e = api.ErrDeep
	}
	fails(t, l, ask(l), e, expect.None)
}

// lists goes through all lists of so many of these nodes.
func lists(nodes []api.Node, size int, see func([]api.Node)) {
	l := make([]api.Node, size)
	var fill func(at int)
	fill = func(at int) {
		if at == size {
			see(l)
			return
		}
		for _, l[at] = range nodes {
			fill(at + 1)
		}
	}
	fill(0)
}

// P13.1, P13.8: all short lists of nodes with few kids.
func TestShapes(t *testing.T) {
	var nodes []api.Node
	for kids := -1; kids <= 4; kids++ {
		nodes = append(nodes, sample.Node(api.OpAnd, kids))
	}
	for size := range 7 {
		lists(nodes, size, func(l []api.Node) { holds(t, l) })
	}
}

// P13.2: all short lists of nodes of each kind.
func TestKinds(t *testing.T) {
	var nodes []api.Node
	for op := range api.Op(29) {
		for kids := range 4 {
			n := sample.Node(op, kids)
			switch op {
			case api.OpCall:
				n.Func, n.S = api.Mean, "v"
			case api.OpTag:
				n.S = "host"
			}
			nodes = append(nodes, n)
		}
	}
	for size := range 3 {
		lists(nodes, size, func(l []api.Node) { holds(t, l) })
	}
	nodes = slices.DeleteFunc(nodes, func(n api.Node) bool {
		return n.Kids == 3 || n.Kids > 0 && isOne(n.Op, api.OpInt, api.OpTrue, api.OpTag, api.OpClock)
	})
	lists(nodes, 3, func(l []api.Node) {
		if l[0].Kids > 0 {
			holds(t, l)
		}
	})
}

// P13.1, P13.2: right trees, and trees with one thing of them spoilt.
func TestAnyTrees(t *testing.T) {
	d := draw()
	right, wrong := 0, 0
	for range 30000 {
		l := sample.One(d, d.Sum(1+d(5)), d.Cond(1+d(5)))
		if (Sum(l) == nil) == (Cond(l) == nil) {
			t.Fatalf("%v: %v and %v", l, Sum(l), Cond(l))
		}
		holds(t, l)
		l = d.Spoil(l)
		holds(t, l)
		if Sum(l) == nil || Cond(l) == nil {
			right++
		} else {
			wrong++
		}
	}
	if right < 3000 || wrong < 10000 {
		t.Errorf("%d were right still, %d wrong", right, wrong)
	}
}

// P13.2: what each node may say, at the edges.
func TestFields(t *testing.T) {
	long := func(n int) string { return string(slices.Repeat([]byte("n"), n)) }
	names := []string{"", "v", "time", "Time", "TIME", "time ", "a\x1f", "a\x7f", "a b", "\xc3", "é", long(64), long(65), long(256), long(257)}
	numbers := []int64{0, 1, -1, math.MaxInt64, math.MinInt64, math.MinInt64 + 1}
	for op := range api.Op(29) {
		for _, f := range []api.Func{0, 1, 4, 8, 9, 255} {
			for _, s := range names {
				for _, n := range numbers {
					l := []api.Node{{Op: op, Func: f, S: s, N: n, Pos: 5}}
					holds(t, l)
					for _, other := range []api.Node{sample.Text("x"), sample.Tag("x"), sample.Node(api.OpClock, 0), sample.Time(5)} {
						for _, above := range []api.Op{api.OpEq, api.OpLt, api.OpIn} {
							holds(t, sample.Over(above, l, []api.Node{other}))
							holds(t, sample.Over(above, []api.Node{other}, l))
						}
					}
				}
			}
		}
	}
	for _, n := range []api.Node{{Op: api.OpNeg, Kids: 1, N: 1}, {Op: api.OpNeg, Kids: 1, S: "a"}, {Op: api.OpNeg, Kids: 1, Func: 1}, {Op: api.OpNeg, Kids: 1, Pos: 1}} {
		holds(t, []api.Node{n, sample.Int(1)})
		n.Op = api.OpNot
		holds(t, []api.Node{n, sample.Node(api.OpTrue, 0)})
	}
}

// P13.2: how many kids of each kind each node may have.
func TestKidCounts(t *testing.T) {
	for op := range api.Op(29) {
		for _, kid := range []api.Node{sample.Int(1), sample.Node(api.OpTrue, 0), sample.Tag("a"), sample.Text("a"), sample.Time(1), sample.Node(api.OpClock, 0)} {
			for count := range 6 {
				holds(t, sample.Above(op, slices.Repeat([]api.Node{kid}, count)...))
			}
		}
	}
}

// P13.2: how many texts a list may have, and how many conditions stand beside one another.
func TestManyKids(t *testing.T) {
	for _, size := range []int{0, 1, 2, 63, 64, 65, 66, 1000} {
		l := []api.Node{sample.Node(api.OpIn, 1+size), sample.Tag("host")}
		all := []api.Node{sample.Node(api.OpAnd, size)}
		for range size {
			l = append(l, sample.Text("x"))
			all = append(all, sample.Node(api.OpTrue, 0))
		}
		holds(t, l)
		holds(t, all)
		if (Cond(l) == nil) != (1 <= size && size <= 64) || (Cond(all) == nil) != (size >= 2) {
			t.Errorf("%d kids: %v, %v", size, Cond(l), Cond(all))
		}
	}
}

// chain is a tree of so many levels, each a node above the one below it and, maybe, others.
func chain(levels int, least []api.Node, above func(tree []api.Node) []api.Node) []api.Node {
	l := least
	for Depth(l) < levels {
		l = above(l)
	}
	return l
}

// chains are trees of so many levels of each kind.
func chains(levels int) (sums, conds [][]api.Node) {
	v, yes := []api.Node{sample.Call(api.Max, "v")}, []api.Node{sample.Node(api.OpTrue, 0)}
	host := sample.Above(api.OpEq, sample.Tag("host"), sample.Text("a"))
	sums = append(sums, chain(levels, v, func(l []api.Node) []api.Node { return sample.Over(api.OpNeg, l) }),
		chain(levels, v, func(l []api.Node) []api.Node { return sample.Over(api.OpSub, l, v) }),
		chain(levels, v, func(l []api.Node) []api.Node { return sample.Over(api.OpMul, v, l) }))
	conds = append(conds, chain(levels, yes, func(l []api.Node) []api.Node { return sample.Over(api.OpNot, l) }),
		chain(levels, host, func(l []api.Node) []api.Node { return sample.Over(api.OpAnd, l, yes, host) }),
		chain(levels, host, func(l []api.Node) []api.Node { return sample.Over(api.OpOr, yes, sample.Over(api.OpNot, host), l) }))
	return sums, conds
}

// P13.1, P13.2: how deep a tree may be; what is no tree of its kind is told first.
func TestDeep(t *testing.T) {
	for _, levels := range []int{62, 63, 64, 65, 66, 200} {
		sums, conds := chains(levels)
		var e api.Errno
		if levels > api.MaxDeep {
			e = api.ErrDeep
		}
		for i := range sums {
			holds(t, sums[i])
			holds(t, conds[i])
			fails(t, levels, Sum(sums[i]), e, expect.None)
			fails(t, levels, Cond(conds[i]), e, expect.None)
			fails(t, levels, Sum(conds[i]), api.ErrTree, expect.None)
			fails(t, levels, Sum(append(sums[i], sample.Int(1))), api.ErrTree, expect.None)
			fails(t, levels, Cond(conds[i][:len(conds[i])-1]), api.ErrTree, expect.None)
		}
	}
}

// P1: a tree may be as deep as its list is long, and have no end in sight.
func TestVeryDeep(t *testing.T) {
	const levels = 1 << 20
	l := slices.Repeat([]api.Node{sample.Node(api.OpNeg, 1)}, levels)
	l[levels-1] = sample.Int(1)
	if Depth(l) != levels || End(l, 0) != levels || End(l, 5) != levels || !slices.Equal(Kids(l, 7), []int{8}) {
		t.Error(Depth(l), End(l, 0), End(l, 5), Kids(l, 7))
	}
	fails(t, levels, Sum(l), api.ErrDeep, expect.None)
	fails(t, levels, Cond(l), api.ErrTree, expect.None)
	for _, many := range []int{math.MaxInt, math.MaxInt - 1, math.MinInt, -1, levels} {
		l[0].Kids = many
		if Depth(l) != 0 || End(l, 0) != 0 || len(Kids(l, 0)) != 0 {
			t.Errorf("%d kids: %d, %d", many, Depth(l), End(l, 0))
		}
		fails(t, many, Sum(l), api.ErrTree, expect.None)
	}
	for i := range l {
		l[i] = sample.Node(api.OpAnd, math.MaxInt)
	}
	if Depth(l) != 0 || End(l, 0) != 0 || len(Kids(l, 0)) != 0 {
		t.Error(Depth(l), End(l, 0))
	}
}

// P13.1: places at which no node stands.
func TestNoNode(t *testing.T) {
	for _, l := range [][]api.Node{nil, {}, {sample.Int(1)}, {sample.Node(api.OpNeg, 1), sample.Int(1)}} {
		for _, at := range []int{math.MinInt, -1, len(l), len(l) + 1, math.MaxInt} {
			if End(l, at) != 0 || len(Kids(l, at)) != 0 {
				t.Errorf("%v at %d: %d, %v", l, at, End(l, at), Kids(l, at))
			}
		}
	}
	if Depth(nil) != 0 {
		t.Error(Depth(nil))
	}
	fails(t, "nothing", Sum(nil), api.ErrTree, expect.None)
	fails(t, "nothing", Cond(nil), api.ErrTree, expect.None)
}

// P13.6: the calls of any nodes, as they are.
func TestCalls(t *testing.T) {
	d := draw()
	for range 2000 {
		l := d.Sum(5)
		for i := range l {
			l[i].Pos = d(99)
		}
		if d(2) == 0 {
			l = d.Spoil(l)
		}
		want := slices.DeleteFunc(slices.Clone(l), func(n api.Node) bool { return n.Op != api.OpCall })
		got := Calls(l)
		if !slices.Equal(got, want) {
			t.Fatalf("%v: %v", l, got)
		}
		before := slices.Clone(l)
		for i := range got {
			got[i] = api.Node{}
		}
		if !slices.Equal(l, before) {
			t.Fatal("the calls lie in the list that was handed in")
		}
	}
	if len(Calls(nil)) != 0 {
		t.Error(Calls(nil))
	}
}
