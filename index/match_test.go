package index

import (
	"math"
	"slices"
	"strconv"
	"strings"
	"testing"

	"weir/api"
)

// P10.3 and P10.4, each node by itself.
func TestMatch(t *testing.T) {
	x, m := grown(t, draw(), 100)
	h, z := eq("a", "x"), eq("b", "y")
	none := op(api.OpFalse)
	for _, cond := range []tree{
		op(api.OpTrue), none, op(api.OpNot, op(api.OpTrue)), op(api.OpNot, none),
		h, eq("a", ""), eq("none", ""), eq("none", "x"), eq("v", "x"),
		op(api.OpEq, text("x"), tagOf("a")), op(api.OpEq, text(""), tagOf("a")), op(api.OpNe, text("x"), tagOf("a")),
		op(api.OpNe, tagOf("a"), text("x")), op(api.OpNe, tagOf("a"), text("")),
		op(api.OpEq, text("x"), text("x")), op(api.OpEq, text("x"), text("y")), op(api.OpEq, text(""), text("")),
		op(api.OpNe, text("x"), text("x")), op(api.OpNe, text("x"), text("")),
		op(api.OpEq, tagOf("a"), tagOf("b")), op(api.OpEq, tagOf("b"), tagOf("a")), op(api.OpEq, tagOf("a"), tagOf("a")),
		op(api.OpNe, tagOf("a"), tagOf("b")), op(api.OpNe, tagOf("a"), tagOf("a")),
		op(api.OpEq, tagOf("a"), tagOf("none")), op(api.OpEq, tagOf("none"), tagOf("a")), op(api.OpEq, tagOf("none"), tagOf("v")),
		op(api.OpIn, tagOf("a"), text("x")), op(api.OpIn, tagOf("a"), text("")), op(api.OpIn, tagOf("a"), text("y"), text("x"), text("y")),
		op(api.OpIn, tagOf("a"), text("y"), text("")), op(api.OpIn, tagOf("none"), text(""), text("x")),
		op(api.OpIn, text("x"), text("y"), text("x")), op(api.OpIn, text("x"), text("y")), op(api.OpIn, text(""), text("y"), text("")),
		op(api.OpNot, op(api.OpIn, tagOf("a"), text("x"), text(""))),
		op(api.OpAnd, h, z), op(api.OpOr, h, z), op(api.OpNot, op(api.OpAnd, h, z)), op(api.OpNot, op(api.OpOr, h, z)),
		op(api.OpAnd, h, z, none), op(api.OpOr, h, z, none), op(api.OpAnd, h, op(api.OpNot, h)), op(api.OpOr, h, op(api.OpNot, h)),
		op(api.OpAnd, op(api.OpOr, h, z), op(api.OpNot, z)), op(api.OpOr, op(api.OpAnd, h, z), op(api.OpAnd, z, h), h),
	} {
		for _, measure := range append(someMeasures, "none", "") {
			matches(t, x, m, measure, cond)
		}
	}
	for _, cond := range [][]api.Node{nil, {}} {
		l, err := x.Match("m", cond)
		fails(t, "no condition", err, 0)
		is(t, "no condition", l, m.with(func(s api.Series) bool { return s.Measure == "m" }))
	}
}

// P10.4: of a tag and a text it is Find; of AND, OR and NOT what both, one of two, none of the measure's series tell.
func TestLaws(t *testing.T) {
	chance := draw()
	x, _ := grown(t, chance, 100)
	ask := func(cond tree) []api.Series {
		l, err := x.Match("m", flat(cond))
		fails(t, cond, err, 0)
		return l
	}
	in := func(l []api.Series, s api.Series) bool {
		return slices.ContainsFunc(l, func(one api.Series) bool { return same(one, s) })
	}
	for _, name := range append(someNames, "none") {
		for _, v := range append(someTexts, "", "none") {
			is(t, name+" = "+v, ask(eq(name, v)), x.Find("m", name, v))
		}
	}
	for range 2000 {
		a, b := someCond(chance, 5), someCond(chance, 5)
		first, second := ask(a), ask(b)
		both, either, not := ask(op(api.OpAnd, a, b)), ask(op(api.OpOr, a, b)), ask(op(api.OpNot, a))
		for _, s := range x.All("m") {
			if in(both, s) != (in(first, s) && in(second, s)) || in(either, s) != (in(first, s) || in(second, s)) || in(not, s) == in(first, s) {
				t.Fatalf("%v, %v of %v", a, b, s)
			}
		}
	}
}

// deep is a condition under so many NOTs.
func deep(nots int, cond tree) []api.Node {
	l := slices.Repeat([]api.Node{{Op: api.OpNot, Kids: 1}}, nots)
	return append(l, flat(cond)...)
}

func TestNoCondition(t *testing.T) {
	x, m := grown(t, draw(), 60)
	a, b := tagOf("a"), text("x")
	long := op(api.OpIn, a)
	for i := range api.MaxIn + 1 {
		long.kids = append(long.kids, text(strconv.Itoa(i)))
	}
	set := func(cond tree, at int, change func(*api.Node)) []api.Node {
		l := flat(cond)
		change(&l[at])
		return l
	}
	wrong := [][]api.Node{
		{{}}, {{Op: 99}}, {{Op: 255, Kids: 2}}, flat(a), flat(b), flat(op(api.OpClock)), flat(op(api.OpTime)),
		flat(op(api.OpInt)), flat(op(api.OpAcc)), flat(tree{api.Node{Op: api.OpCall, Func: api.Mean, S: "v"}, nil}),
		append(flat(op(api.OpTrue)), flat(op(api.OpTrue))...), append(flat(eq("a", "x")), api.Node{}),
		flat(op(api.OpTrue, op(api.OpTrue))), flat(op(api.OpFalse, a)),
		flat(op(api.OpNot)), flat(op(api.OpNot, op(api.OpTrue), op(api.OpTrue))), flat(op(api.OpNot, a)), flat(op(api.OpNot, b)),
		flat(op(api.OpAnd)), flat(op(api.OpAnd, op(api.OpTrue))), flat(op(api.OpAnd, op(api.OpTrue), a)), flat(op(api.OpAnd, b, op(api.OpTrue))),
		flat(op(api.OpOr)), flat(op(api.OpOr, op(api.OpTrue))), flat(op(api.OpOr, op(api.OpTrue), op(api.OpTrue), op(api.OpInt))),
		flat(op(api.OpEq)), flat(op(api.OpEq, a)), flat(op(api.OpEq, a, b, b)), flat(op(api.OpEq, a, op(api.OpTrue))), flat(op(api.OpEq, op(api.OpTrue), b)),
		flat(op(api.OpNe)), flat(op(api.OpNe, b)), flat(op(api.OpNe, a, b, a)), flat(op(api.OpNe, a, op(api.OpInt))),
		flat(op(api.OpEq, op(api.OpClock), op(api.OpTime))), flat(op(api.OpNe, op(api.OpTime), op(api.OpTime))), flat(op(api.OpEq, a, op(api.OpClock))),
		flat(op(api.OpLt, a, b)), flat(op(api.OpLe, a, b)), flat(op(api.OpGt, a, b)), flat(op(api.OpGe, a, b)),
		flat(op(api.OpLt, op(api.OpClock), op(api.OpTime))), flat(op(api.OpGe, op(api.OpTime), op(api.OpClock))),
		flat(op(api.OpIn)), flat(op(api.OpIn, a)), flat(op(api.OpIn, a, a)), flat(op(api.OpIn, a, b, a)), flat(op(api.OpIn, op(api.OpClock), b)),
		flat(op(api.OpIn, op(api.OpTrue), b)), flat(op(api.OpIn, a, op(api.OpTime))), flat(long),
		flat(eq("", "x")), flat(eq("time", "x")), flat(eq("a\x00", "x")), flat(eq("\xff", "x")), flat(eq(strings.Repeat("a", 65), "x")),
		flat(eq("a", "\x7f")), flat(eq("a", "\xc3")), flat(eq("a", strings.Repeat("x", 257))), flat(op(api.OpIn, a, text("\n"))), flat(op(api.OpIn, tagOf("time"), b)),
		deep(63, eq("a", "x")), deep(64, op(api.OpTrue)), deep(63, op(api.OpIn, a, b)), deep(1000000, op(api.OpTrue)), deep(64, op(api.OpOr, op(api.OpTrue), op(api.OpTrue))),
		deep(63, op(api.OpAnd, op(api.OpTrue), op(api.OpTrue))),
		deep(62, op(api.OpAnd, op(api.OpTrue), eq("a", "x"))),
		deep(3, op(api.OpTrue))[:3],
	}
	for _, cond := range []tree{op(api.OpTrue), op(api.OpFalse), op(api.OpNot, op(api.OpTrue)), op(api.OpAnd, op(api.OpTrue), op(api.OpTrue)), op(api.OpOr, op(api.OpTrue), op(api.OpTrue)), eq("a", "x"), op(api.OpNe, b, a), op(api.OpIn, a, b, b)} {
		for at, n := range flat(cond) {
			wrong = append(wrong, flat(cond)[:at:at],
				set(cond, at, func(n *api.Node) { n.Func = api.Count }),
				set(cond, at, func(n *api.Node) { n.N = 1 }),
				set(cond, at, func(n *api.Node) { n.N = math.MinInt64 }),
				set(cond, at, func(n *api.Node) { n.Kids++ }),
				set(cond, at, func(n *api.Node) { n.Kids-- }),
				set(cond, at, func(n *api.Node) { n.Kids = math.MinInt }),
				set(cond, at, func(n *api.Node) { n.Kids = math.MaxInt }))
			if n.S == "" {
				wrong = append(wrong, set(cond, at, func(n *api.Node) { n.S = "x" }))
			}
		}
	}
	for _, cond := range wrong {
		if len(cond) == 0 {
			continue
		}
		for _, measure := range []string{"m", "none"} {
			l, err := x.Match(measure, cond)
			fails(t, cond, err, api.ErrTree)
			is(t, cond, l, nil)
		}
	}
	agree(t, "behind them", x, m)
}

func TestEdgesOfConditions(t *testing.T) {
	x, m := grown(t, draw(), 60)
	in := op(api.OpIn, tagOf("a"))
	for i := range api.MaxIn - 1 {
		in.kids = append(in.kids, text(strconv.Itoa(i)))
	}
	in.kids = append(in.kids, text("x"))
	name, long := strings.Repeat("é", 32), strings.Repeat("x", 256)
	wide := op(api.OpOr)
	for range 1000 {
		wide.kids = append(wide.kids, eq("a", "y"), op(api.OpNe, tagOf("b"), text("")))
	}
	for _, cond := range []tree{in, eq(name, ""), eq("a", long), eq("Time", ""), eq("=, \\", "time"), op(api.OpIn, tagOf("a"), text("time")), wide} {
		matches(t, x, m, "m", cond)
	}
	for _, c := range []struct {
		nots int
		cond tree
	}{{62, eq("a", "x")}, {62, op(api.OpIn, tagOf("a"), text("x"))}, {63, op(api.OpTrue)}, {62, op(api.OpOr, op(api.OpFalse), op(api.OpTrue))}, {61, op(api.OpOr, op(api.OpFalse), eq("a", "x"))}} {
		l, err := x.Match("m", deep(c.nots, c.cond))
		fails(t, c, err, 0)
		is(t, c, l, m.with(func(s api.Series) bool { return s.Measure == "m" && truth(c.cond, s.Tags) == (c.nots%2 == 0) }))
	}
}

// Pos plays no part; any other change of a node that makes no condition of tags is told.
func TestTurnedConditions(t *testing.T) {
	chance := draw()
	x, m := grown(t, chance, 60)
	wrong := 0
	for range 30000 {
		l := flat(someCond(chance, 4))
		for range 1 + chance.Intn(2) {
			at := chance.Intn(len(l))
			switch chance.Intn(6) {
			case 0:
				l[at].Op = api.Op(chance.Intn(30))
			case 1:
				l[at].Kids = chance.Intn(5) - 1
			case 2:
				l[at].S = pick(chance, "", "a", "time", "\x00")
			case 3:
				l[at].N = int64(chance.Intn(2))
			case 4:
				l[at].Func = api.Func(chance.Intn(2))
			case 5:
				l = append(l[:at], l[min(at+1+chance.Intn(2), len(l)):]...)
			}
			if len(l) == 0 {
				break
			}
		}
		cond, rest, ok := grow(l)
		if len(l) > 0 && (!ok || len(rest) > 0 || sort(cond) != 'c') {
			wrong++
			got, err := x.Match("m", l)
			fails(t, l, err, api.ErrTree)
			is(t, l, got, nil)
		} else if len(l) > 0 {
			matches(t, x, m, "m", cond)
		}
	}
	if wrong < 10000 || wrong > 29000 {
		t.Errorf("%d are none", wrong)
	}
}

// grow is the tree with which nodes begin, whatever they are, and what is behind it.
func grow(l []api.Node) (r tree, rest []api.Node, ok bool) {
	if len(l) == 0 || l[0].Kids < 0 {
		return tree{}, nil, false
	}
	r.Node, rest = l[0], l[1:]
	for range l[0].Kids {
		k, behind, ok := grow(rest)
		if !ok {
			return tree{}, nil, false
		}
		r.kids, rest = append(r.kids, k), behind
	}
	return r, rest, true
}

// sort is what a tree is: c a condition of tags, t a tag, x a text; a blank where it is none of these.
func sort(r tree) byte {
	kinds := ""
	for _, k := range r.kids {
		kinds += string(sort(k))
	}
	if r.Func != 0 || r.N != 0 {
		return ' '
	}
	many := func(k string) bool { return strings.Trim(kinds, k) == "" }
	right := false
	switch r.Op {
	case api.OpTag:
		if kinds == "" && slices.Contains(append(someNames, "none", "x", "y", "z"), r.S) {
			return 't'
		}
		return ' '
	case api.OpText:
		if kinds == "" && r.S != "\x00" {
			return 'x'
		}
		return ' '
	case api.OpTrue, api.OpFalse:
		right = kinds == ""
	case api.OpNot:
		right = kinds == "c"
	case api.OpAnd, api.OpOr:
		right = many("c") && len(kinds) > 1
	case api.OpEq, api.OpNe:
		right = many("tx") && len(kinds) == 2
	case api.OpIn:
		right = len(kinds) > 1 && (kinds[0] == 't' || kinds[0] == 'x') && strings.Trim(kinds[1:], "x") == ""
	}
	if right && r.S == "" {
		return 'c'
	}
	return ' '
}
