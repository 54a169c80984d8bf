package index

import (
	"slices"
	"strconv"
	"strings"
	"testing"

	"weir/api"
)

func TestExamples(t *testing.T) {
	x := New()
	a, b, bare := of("cpu", "v", "host", "a"), of("cpu", "v", "host", "b"), of("cpu", "v")
	for _, s := range []api.Series{a, b, bare} {
		fails(t, s, x.Add(s), 0)
	}
	are(t, "Names", x.Names("cpu"), "host")
	are(t, "Values", x.Values("cpu", "host"), "a", "b")
	is(t, "host", x.Find("cpu", "host", ""), []api.Series{bare})
	is(t, "zone", x.Find("cpu", "zone", ""), []api.Series{bare, a, b})
	l, err := x.Match("cpu", flat(op(api.OpNe, tagOf("host"), text("a"))))
	fails(t, "!=", err, 0)
	is(t, "!=", l, []api.Series{bare, b})
	l, err = x.Match("cpu", flat(op(api.OpGt, op(api.OpClock), tree{api.Node{Op: api.OpTime, N: 5}, nil})))
	fails(t, "time", err, api.ErrTree)
	is(t, "time", l, nil)
	l, err = x.Match("cpu", flat(op(api.OpNot, op(api.OpIn, tagOf("host"), text("a"), text("")))))
	fails(t, "IN", err, 0)
	is(t, "IN", l, []api.Series{b})
	fails(t, "once", x.Remove(bare), 0)
	fails(t, "twice", x.Remove(bare), api.ErrNone)
}

func TestNil(t *testing.T) {
	var x *Index
	s := of("m", "v", "a", "x")
	fails(t, "Add", x.Add(s), api.ErrNil)
	fails(t, "Add", x.Add(api.Series{}), api.ErrNil)
	fails(t, "Remove", x.Remove(s), api.ErrNil)
	for _, cond := range [][]api.Node{nil, flat(op(api.OpTrue)), {{}}} {
		l, err := x.Match("m", cond)
		fails(t, "Match", err, api.ErrNil)
		is(t, "Match", l, nil)
	}
	if x.Fork() != nil || x.Has(s) || x.Len() != 0 {
		t.Errorf("%v, %v, %v", x.Fork(), x.Has(s), x.Len())
	}
	agree(t, "nil", x, nil)
}

func TestNone(t *testing.T) {
	x := New()
	agree(t, "new", x, nil)
	if x.Has(api.Series{}) || x.Has(of("m", "v")) {
		t.Error("something is there")
	}
	fails(t, "new", x.Remove(of("m", "v")), api.ErrNone)
	fails(t, "new", x.Remove(api.Series{}), api.ErrNone)
	fails(t, "series", x.Add(of("m", "v")), 0)
	fails(t, "series", x.Remove(of("m", "v")), 0)
	agree(t, "empty again", x, nil)
}

func TestAddErrors(t *testing.T) {
	x := New()
	there := of("m", "v", "a", "x")
	fails(t, there, x.Add(there), 0)
	nine := make([]string, 0)
	for i := range 9 {
		nine = append(nine, strconv.Itoa(i), "x")
	}
	for _, c := range []struct {
		s api.Series
		e api.Errno
	}{
		{api.Series{}, api.ErrName},
		{of("", "v", "a", "x"), api.ErrName},
		{of("m\n", "v"), api.ErrName},
		{of(strings.Repeat("m", 65), "v"), api.ErrName},
		{of("", "", "a", ""), api.ErrName},
		{of("m", "v", "a", ""), api.ErrTags},
		{of("m", "", "", "x"), api.ErrTags},
		{of("m", "v", "time", "x"), api.ErrTags},
		{of("m", "v", "b", "x", "a", "x"), api.ErrTags},
		{of("m", "v", "a", "x", "a", "x"), api.ErrTags},
		{of("m", "v", "a", "x", "a", "y"), api.ErrTags},
		{of("m", "v", "a", strings.Repeat("x", 257)), api.ErrTags},
		{of("m", "v", nine...), api.ErrTags},
		{of("m", ""), api.ErrName},
		{of("m", "time", "a", "x"), api.ErrName},
		{of("m", "\xff"), api.ErrName},
		{there, api.ErrKnown},
	} {
		fails(t, c.s, x.Add(c.s), c.e)
		agree(t, c.s, x, model{there})
		if c.e == api.ErrKnown {
			continue
		}
		fails(t, c.s, x.Remove(c.s), api.ErrNone)
		if x.Has(c.s) {
			t.Errorf("%v is there", c.s)
		}
	}
	for _, s := range []api.Series{
		of("m", "v"), of("m", "w", "a", "x"), of("m", "v", "a", "y"), of("m", "v", "b", "x"), of("n", "v", "a", "x"),
		of("m", "v", "a", "x", "b", "x"), of("time", "v", nine[:16]...), of("m,a=x", "v"), of("m", "v", "a", "x,b=x"), of("m", `x\ v`),
	} {
		if x.Has(s) {
			t.Errorf("%v is there", s)
		}
		fails(t, s, x.Remove(s), api.ErrNone)
		fails(t, s, x.Add(s), 0)
		fails(t, s, x.Add(s), api.ErrKnown)
		if !x.Has(s) || !x.Has(there) || x.Len() != 2 {
			t.Errorf("%v is not there", s)
		}
		fails(t, s, x.Remove(s), 0)
	}
	agree(t, "in the end", x, model{there})
}

// What is there is what a list of it tells, whatever the calls were.
func TestAnyCalls(t *testing.T) {
	chance := draw()
	for range 25 {
		x, m := New(), model(nil)
		for step := range 150 {
			s := someSeries(chance)
			if step > 100 && len(m) > 0 && chance.Intn(2) == 0 {
				s = m[chance.Intn(len(m))]
			}
			there := m.has(s)
			if x.Has(s) != there {
				t.Fatalf("%v: %v", s, !there)
			}
			switch remove := chance.Intn(200) < step; {
			case remove && there:
				fails(t, s, x.Remove(s), 0)
				m = slices.DeleteFunc(m, func(one api.Series) bool { return same(one, s) })
			case remove:
				fails(t, s, x.Remove(s), api.ErrNone)
			case there:
				fails(t, s, x.Add(s), api.ErrKnown)
			default:
				fails(t, s, x.Add(s), 0)
				m = append(m, s)
			}
			if step%7 == 0 {
				agree(t, step, x, m)
			}
			matches(t, x, m, pick(chance, someMeasures...), someCond(chance, 5))
		}
		for _, s := range slices.Clone(m) {
			fails(t, s, x.Remove(s), 0)
		}
		agree(t, "none is left", x, nil)
	}
}

// P10.5: what is there counts, not the way there.
func TestAnyWay(t *testing.T) {
	chance := draw()
	for range 20 {
		x, m := grown(t, chance, 40)
		y := New()
		for _, i := range chance.Perm(len(m)) {
			fails(t, "another way", y.Add(m[i]), 0)
			s := someSeries(chance)
			if y.Add(s) == nil && !m.has(s) {
				fails(t, s, y.Remove(s), 0)
			} else {
				_ = y.Remove(s)
			}
		}
		for _, s := range m {
			_ = y.Add(s)
		}
		agree(t, "one way", x, m)
		agree(t, "another way", y, m)
		for range 20 {
			cond := someCond(chance, 6)
			matches(t, x, m, "m", cond)
			matches(t, y, m, "m", cond)
		}
	}
}

// P10.6: for each name a series is found with its own value alone.
func TestFoundOnce(t *testing.T) {
	x, m := grown(t, draw(), 80)
	for _, s := range m {
		for _, name := range append(someNames, "none") {
			for _, v := range append(x.Values(s.Measure, name), "", "none") {
				found := slices.ContainsFunc(x.Find(s.Measure, name, v), func(one api.Series) bool { return same(one, s) })
				if found != (value(tagOf(name), s.Tags) == v) {
					t.Errorf("%v by %s %q: %v", s, name, v, found)
				}
			}
		}
	}
}

// P4: a fork and what it was made of go their own ways.
func TestFork(t *testing.T) {
	chance := draw()
	for range 20 {
		x, m := grown(t, chance, 30)
		y := x.Fork()
		n := slices.Clone(m)
		agree(t, "fork", y, n)
		for range 40 {
			s := someSeries(chance)
			one, list := x, &m
			if chance.Intn(2) == 0 {
				one, list = y, &n
			}
			if list.has(s) {
				fails(t, s, one.Remove(s), 0)
				*list = slices.DeleteFunc(*list, func(old api.Series) bool { return same(old, s) })
			} else {
				fails(t, s, one.Add(s), 0)
				*list = append(*list, s)
			}
		}
		agree(t, "x", x, m)
		agree(t, "y", y, n)
		agree(t, "fork of a fork", y.Fork().Fork(), n)
		cond := someCond(chance, 6)
		matches(t, x, m, "m", cond)
		matches(t, y, n, "m", cond)
	}
}

// scribble writes over all of an answer, and over the room behind its lists.
func scribble(l []api.Series) {
	for i, s := range l {
		on := s.Tags[:cap(s.Tags)]
		for j := range on {
			on[j] = api.Tag{Key: "scribble", Value: strconv.Itoa(i)}
		}
		l[i].Measure, l[i].Field = "scribble", "scribble"
	}
}

func TestMemory(t *testing.T) {
	x, m := New(), model(nil)
	for _, v := range someTexts {
		s := of("m", "v", "a", v, "b", v)
		m = append(m, of("m", "v", "a", v, "b", v))
		s.Tags = append(s.Tags, api.Tag{Key: "room"})[:2]
		fails(t, s, x.Add(s), 0)
		if s.Tags[:3][2] != (api.Tag{Key: "room"}) || !same(s, m[len(m)-1]) {
			t.Errorf("%v is another one", s.Tags[:3])
		}
		scribble([]api.Series{s})
	}
	y := x.Fork()
	cond := append(flat(op(api.OpNe, tagOf("a"), text("none"))), api.Node{Op: 99})
	kept := slices.Clone(cond)
	for range 2 {
		first, _ := x.Match("m", cond[:3])
		second, _ := x.Match("m", nil)
		for _, l := range [][]api.Series{first, second, x.All("m"), x.Find("m", "a", "x"), x.Find("m", "none", ""), y.All("m")} {
			for i := range l {
				for j := range i {
					scribble(l[j : j+1])
				}
				if l[i].Measure != "m" || l[i].Tags[0].Key != "a" {
					t.Errorf("%v shares memory with another one", l[i])
				}
			}
			scribble(l)
		}
		for _, l := range [][]string{x.Measures(), x.Names("m"), x.Values("m", "a"), x.Fields("m")} {
			for i := range l[:cap(l)] {
				l[:cap(l)][i] = "scribble"
			}
		}
	}
	if !slices.Equal(cond, kept) {
		t.Errorf("%v, not %v", cond, kept)
	}
	agree(t, "x", x, m)
	agree(t, "y", y, m)
	s := of("m", "v", "a", "x", "b", "x")
	s.Tags = append(s.Tags, api.Tag{Key: "room"})[:2]
	if !x.Has(s) || x.Remove(s) != nil || s.Tags[:3][2] != (api.Tag{Key: "room"}) {
		t.Errorf("%v is another one", s.Tags[:3])
	}
}

func TestManySeries(t *testing.T) {
	x := New()
	const many = 50000
	series := func(i int) api.Series {
		return of("m", "v", "each", strconv.Itoa(i), "few", strconv.Itoa(i%7), "one", "x")
	}
	for i := range many {
		if err := x.Add(series(i)); err != nil {
			t.Fatal(err)
		}
	}
	if n := len(x.Values("m", "each")); n != many {
		t.Errorf("%d values", n)
	}
	or, and := op(api.OpOr), op(api.OpAnd)
	for i := range many {
		or.kids = append(or.kids, eq("each", strconv.Itoa(i*2)))
		and.kids = append(and.kids, eq("each", "7"))
	}
	for _, c := range []struct {
		cond tree
		n    int
	}{
		{or, many / 2},
		{and, 1},
		{op(api.OpEq, tagOf("each"), tagOf("few")), 7},
		{op(api.OpNe, tagOf("each"), tagOf("each")), 0},
		{op(api.OpAnd, eq("each", "9"), eq("few", "2")), 1},
		{op(api.OpNot, op(api.OpIn, tagOf("few"), text("1"), text("3"))), many - 7143 - 7143},
	} {
		l, err := x.Match("m", flat(c.cond))
		if err != nil || len(l) != c.n || !slices.IsSortedFunc(l, compare) {
			t.Errorf("%.100v: %d, %v", c.cond.Op, len(l), err)
		}
	}
	for i := range many {
		if err := x.Remove(series(i * 3 % many)); err != nil {
			t.Fatal(err)
		}
	}
	agree(t, "none is left", x, nil)
}
