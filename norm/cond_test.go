package norm

import (
	"math"
	"slices"
	"testing"

	"weir/api"
	"weir/ast"
	"weir/sample"
)

// calls of conditions, by their names: what they tell of a right one, told anew.
func answers() map[string]struct {
	call func(l []api.Node) ([]api.Node, error)
	want func(g grown) grown
} {
	type entry = struct {
		call func(l []api.Node) ([]api.Node, error)
		want func(g grown) grown
	}
	return map[string]entry{
		"Fold": {Fold, grown.folded},
		"Form": {Form, grown.formed},
		"Not":  {Not, func(g grown) grown { return made(api.OpNot, g).formed() }},
	}
}

// is holds a tree against what it must be, places too.
func is(t *testing.T, what string, from, got []api.Node, err error, want grown) {
	t.Helper()
	fails(t, from, err, 0)
	if !slices.Equal(got, want.flat()) {
		t.Fatalf("%s of %s: %s, not %s", what, textOf(from), textOf(got), textOf(want.flat()))
	}
}

// The chapter's first two examples, and one of each rule.
func TestForms(t *testing.T) {
	for s, want := range map[string][2]string{ // Fold, Form
		"NOT (host = 'a' AND time < 5)": {"NOT (host = 'a' AND time < 5)", "host != 'a' OR time >= 5"},
		"'a' = host":                    {"'a' = host", "host = 'a'"},
		"'a' != host":                   {"'a' != host", "host != 'a'"},
		"5 > time":                      {"5 > time", "time < 5"},
		"5 >= time":                     {"5 >= time", "time <= 5"},
		"5 < time":                      {"5 < time", "time > 5"},
		"5 <= time":                     {"5 <= time", "time >= 5"},
		"5 = time":                      {"5 = time", "time = 5"},
		"5 != time":                     {"5 != time", "time != 5"},
		"NOT 5 > time":                  {"NOT 5 > time", "time >= 5"},
		"NOT time <= 5":                 {"NOT time <= 5", "time > 5"},
		"NOT time > 5":                  {"NOT time > 5", "time <= 5"},
		"b = a":                         {"b = a", "a = b"},
		"b != a":                        {"b != a", "a != b"},
		"host IN ('b', 'a', 'b')":       {"host IN ('b', 'a', 'b')", "host IN ('a', 'b')"},
		"host IN ('a')":                 {"host IN ('a')", "host = 'a'"},
		"host IN ('a', 'a')":            {"host IN ('a', 'a')", "host = 'a'"},
		"NOT host IN ('a')":             {"NOT host IN ('a')", "host != 'a'"},
		"NOT host IN ('b', 'a')":        {"NOT host IN ('b', 'a')", "NOT host IN ('a', 'b')"},
		"NOT NOT host IN ('b', 'a')":    {"NOT NOT host IN ('b', 'a')", "host IN ('a', 'b')"},
		"'a' IN ('b', 'a')":             {"TRUE", "TRUE"},
		"NOT 'a' IN ('b')":              {"TRUE", "TRUE"},
		"NOT 'a' IN ('a')":              {"FALSE", "FALSE"},
		"TRUE AND host = host":          {"TRUE", "TRUE"},
		"host != host":                  {"FALSE", "FALSE"},
		"time = time AND time <= time AND time >= time":              {"TRUE", "TRUE"},
		"time != time OR time < time OR time > time":                 {"FALSE", "FALSE"},
		"'a' = 'a' AND 'a' != 'b' AND NOT 'A' = 'a'":                 {"TRUE", "TRUE"},
		"1 < 2 AND 2 <= 2 AND -1 > -2 AND 3 >= 3":                    {"TRUE", "TRUE"},
		"1 = 2 OR 2 != 2 OR 2 < 1 OR 3 <= 2 OR 1 > 1":                {"FALSE", "FALSE"},
		"a = 'x' OR (b = 'y' OR a = 'x')":                            {"a = 'x' OR (b = 'y' OR a = 'x')", "a = 'x' OR b = 'y'"},
		"NOT NOT a = 'x'":                                            {"NOT NOT a = 'x'", "a = 'x'"},
		"a = 'x' AND FALSE":                                          {"FALSE", "FALSE"},
		"a = 'x' OR TRUE":                                            {"TRUE", "TRUE"},
		"TRUE AND a = 'x' AND TRUE":                                  {"a = 'x'", "a = 'x'"},
		"a = 'x' OR FALSE":                                           {"a = 'x'", "a = 'x'"},
		"(a = 'x' OR FALSE) AND b = 'y'":                             {"a = 'x' AND b = 'y'", "a = 'x' AND b = 'y'"},
		"NOT (a = 'x' OR FALSE)":                                     {"NOT a = 'x'", "a != 'x'"},
		"a = 'x' AND a = 'x'":                                        {"a = 'x' AND a = 'x'", "a = 'x'"},
		"(a = 'x' AND a = 'x') OR a = 'x'":                           {"a = 'x' AND a = 'x' OR a = 'x'", "a = 'x'"},
		"((a = 'x' OR b = 'y') AND (b = 'y' OR a = 'x')) OR c = 'z'": {"(a = 'x' OR b = 'y') AND (b = 'y' OR a = 'x') OR c = 'z'", "a = 'x' OR b = 'y' OR c = 'z'"},
		"time >= 5 AND time < 9 AND a != 'x' AND a = 'x'":            {"time >= 5 AND time < 9 AND a != 'x' AND a = 'x'", "a = 'x' AND a != 'x' AND time < 9 AND time >= 5"},
		"time = 10 OR time = 9 OR time = -1":                         {"time = 10 OR time = 9 OR time = -1", "time = -1 OR time = 9 OR time = 10"},
		"b = 'x' OR a = 'y' OR ab = 'x' OR a = ''":                   {"b = 'x' OR a = 'y' OR ab = 'x' OR a = ''", "a = '' OR a = 'y' OR ab = 'x' OR b = 'x'"},
		"a IN ('x', 'y', 'z') OR a IN ('x', 'y')":                    {"a IN ('x', 'y', 'z') OR a IN ('x', 'y')", "a IN ('x', 'y') OR a IN ('x', 'y', 'z')"},
		"TRUE":      {"TRUE", "TRUE"},
		"NOT TRUE":  {"FALSE", "FALSE"},
		"NOT FALSE": {"TRUE", "TRUE"},
	} {
		l := condOf(t, s)
		for i, call := range []func(l []api.Node) ([]api.Node, error){Fold, Form} {
			got, err := call(l)
			fails(t, s, err, 0)
			if textOf(got) != want[i] {
				t.Errorf("%s: %s, not %s", s, textOf(got), want[i])
			}
		}
	}
}

// P16.1: all that is told of any conditions is what the words say; places are 0.
func TestAnyForms(t *testing.T) {
	d := draw()
	changed := map[string]int{}
	for i := range 30000 {
		l := someCond(d, 1+i%7)
		for name, a := range answers() {
			got, err := a.call(l)
			is(t, name, l, got, err, a.want(grow(l)))
			if !ast.Same(got, l) {
				changed[name]++
			}
		}
		from, to, err := Span(l)
		fails(t, l, err, 0)
		want := grow(l).formed().can()
		if want == nil && (from != 0 || to != 0) || want != nil && (want[0].Int64() != from || want[1].Int64() != to) {
			t.Fatalf("%s: %d, %d, not %v", textOf(l), from, to, want)
		}
	}
	if len(changed) != 3 || changed["Fold"] < 5000 {
		t.Errorf("changed: %v", changed)
	}
}

// P16.1: conditions of other words, the longest ones among them.
func TestOtherWords(t *testing.T) {
	d := draw()
	for i := range 3000 {
		l := d.Cond(1 + i%6)
		for name, a := range answers() {
			got, err := a.call(l)
			is(t, name, l, got, err, a.want(grow(l)))
		}
	}
}

// P16.3: what is told is right, with no more levels, and told again as it is.
func TestTwice(t *testing.T) {
	d := draw()
	for i := range 20000 {
		l := someCond(d, 1+i%7)
		for name, call := range map[string]func(l []api.Node) ([]api.Node, error){"Fold": Fold, "Form": Form} {
			once, err := call(l)
			if err != nil || ast.Cond(once) != nil || ast.Depth(once) > ast.Depth(l) {
				t.Fatalf("%s of %s: %v", name, textOf(l), once)
			}
			if twice, err := call(once); err != nil || !slices.Equal(once, twice) {
				t.Fatalf("%s of %s: %s, then %s", name, textOf(l), textOf(once), textOf(twice))
			}
		}
		form, _ := Form(l)
		not, err := Not(l)
		fails(t, l, err, 0)
		if again, err := Not(not); err != nil || !slices.Equal(form, again) { // P16.5
			t.Fatalf("Not of Not of %s: %s, not %s", textOf(l), textOf(again), textOf(form))
		}
	}
}

// P16.1, P16.4, P16.6: what holds of any tags, any time.
func TestHolds(t *testing.T) {
	d := draw()
	held := 0
	for i := range 20000 {
		l := someCond(d, 1+i%7)
		g := grow(l)
		fold, _ := Fold(l)
		form, _ := Form(l)
		not, _ := Not(l)
		from, to, _ := Span(l)
		for range 12 {
			tags, at := someTags(d), someTime(d)
			want := g.truth(tags, at)
			for _, c := range []struct {
				name string
				l    []api.Node
				want bool
			}{{"itself", l, want}, {"Fold", fold, want}, {"Form", form, want}, {"Not", not, !want}} {
				if got, err := Holds(c.l, tags, at); got != c.want || err != nil {
					t.Fatalf("%s of %s of %v at %d: %v, %v", c.name, textOf(l), tags, at, got, err)
				}
			}
			if want {
				held++
			}
			if want && -api.MaxTime <= at && at <= api.MaxTime && (at < from || at >= to) {
				t.Fatalf("%s holds at %d, not from %d to %d", textOf(l), at, from, to)
			}
		}
	}
	if held < 50000 {
		t.Errorf("%d held", held)
	}
}

// P16.1: of two tags of one name the first one counts, and a tag that is not there is empty.
func TestTagsOfHolds(t *testing.T) {
	tags := []api.Tag{{Key: "a", Value: "x"}, {Key: "a", Value: "y"}, {Key: "z", Value: ""}, {Key: "b", Value: "x"}}
	for s, want := range map[string]bool{
		"a = 'x'": true, "a = 'y'": false, "z = ''": true, "none = ''": true, "none != ''": false, "a = b": true, "a = none": false,
		"none = z": true, "none IN ('x', '')": true, "a IN ('y', 'z')": false, "a IN ('y', 'x')": true, "'x' = a": true, "A = 'x'": false,
		"time = 7": true, "7 = time": true, "time < 7": false, "7 <= time": true, "6 > time": false, "time != 7": false, "time > 6": true, "time >= 8": false,
	} {
		if got, err := Holds(condOf(t, s), tags, 7); got != want || err != nil {
			t.Errorf("%s: %v, %v", s, got, err)
		}
	}
}

// P16.7: the order of kids, double kids and brackets play no part.
func TestOrder(t *testing.T) {
	d := draw()
	for range 10000 {
		g := grow(someCond(d, 5))
		want, _ := Form(g.flat())
		other := shuffled(d, g)
		if ast.Cond(other.flat()) != nil {
			t.Fatalf("%v is not right", other.flat())
		}
		if got, err := Form(other.flat()); err != nil || !slices.Equal(got, want) {
			t.Fatalf("%s: %s, not %s as of %s", textOf(other.flat()), textOf(got), textOf(want), textOf(g.flat()))
		}
	}
}

// shuffled is a condition that says the same: kids in another order, some twice, some in brackets, operands turned about.
func shuffled(d sample.Draw, g grown) grown {
	switch g.Op {
	case api.OpNot:
		return made(g.Op, shuffled(d, g.kids[0]))
	case api.OpEq, api.OpNe:
		if d(2) == 0 {
			return made(g.Op, g.kids[1], g.kids[0])
		}
	case api.OpIn:
		texts := slices.Clone(g.kids[1:])
		slices.Reverse(texts)
		return made(g.Op, append(append(g.kids[:1:1], texts...), texts[0])...)
	case api.OpAnd, api.OpOr:
		var kids []grown
		for _, kid := range g.kids {
			kids = append(kids, shuffled(d, kid))
		}
		for i := range kids {
			j := d(i + 1)
			kids[i], kids[j] = kids[j], kids[i]
		}
		kids = append(kids, shuffled(d, g.kids[d(len(g.kids))]))
		if cut := d(len(kids) - 1); cut > 1 {
			kids = append(kids[cut:], made(g.Op, kids[:cut]...))
		}
		return made(g.Op, kids...)
	}
	return g
}

// The chapter's third example, and the edges of all times.
func TestSpans(t *testing.T) {
	const first, end = -api.MaxTime, api.MaxTime + 1
	at := func(op api.Op, n int64) []api.Node {
		return sample.Above(op, sample.Node(api.OpClock, 0), sample.Time(n))
	}
	type span = [2]int64
	for s, want := range map[string]span{
		"time >= 10 AND time < 20 AND host = 'a'": {10, 20},
		"time < 5 OR time = 100":                  {first, 101},
		"time < 5 AND time > 5":                   {0, 0},
		"time <= 5 AND time >= 5":                 {5, 6},
		"time > 4 AND time < 6":                   {5, 6},
		"time > 4 AND time < 5":                   {0, 0},
		"TRUE":                                    {first, end},
		"FALSE":                                   {0, 0},
		"host = 'a'":                              {first, end},
		"host != zone":                            {first, end},
		"host IN ('a', 'b')":                      {first, end},
		"NOT host IN ('a', 'b')":                  {first, end},
		"time != 5":                               {first, end},
		"NOT time = 5":                            {first, end},
		"NOT time >= 5":                           {first, 5},
		"5 <= time":                               {5, end},
		"time = 5 OR (time < 3 AND time > 7)":     {5, 6},
		"(time < 3 AND time > 7) OR time = 5":     {5, 6},
		"time = 5 OR time = 9 OR time = -7":       {-7, 10},
		"(time = 0 AND time = 1) OR (time = 2 AND time = 3)":        {0, 0},
		"(time = 0 AND time = 1) AND host = 'a'":                    {0, 0},
		"(time = 5 OR time = 9) AND (time = 7 OR time = 20)":        {7, 10},
		"(time = 5 OR time = 9) AND (time = 11 OR time = 20)":       {0, 0},
		"(time > 5 OR host = 'a') AND NOT (time < 2 OR time >= 20)": {2, 20},
	} {
		from, to, err := Span(condOf(t, s))
		if got := (span{from, to}); got != want || err != nil {
			t.Errorf("%s: %v, not %v: %v", s, got, want, err)
		}
	}
	for _, c := range []struct {
		op   api.Op
		n    int64
		want span
	}{
		{api.OpEq, api.MaxTime, span{api.MaxTime, end}}, {api.OpEq, end, span{}}, {api.OpEq, first, span{first, first + 1}}, {api.OpEq, first - 1, span{}},
		{api.OpLt, first, span{}}, {api.OpLt, first + 1, span{first, first + 1}}, {api.OpLt, end, span{first, end}}, {api.OpLt, end + 1, span{first, end}},
		{api.OpLe, first - 1, span{}}, {api.OpLe, first, span{first, first + 1}}, {api.OpLe, api.MaxTime, span{first, end}}, {api.OpLe, math.MaxInt64, span{first, end}},
		{api.OpGt, api.MaxTime, span{}}, {api.OpGt, api.MaxTime - 1, span{api.MaxTime, end}}, {api.OpGt, first - 1, span{first, end}}, {api.OpGt, math.MaxInt64, span{}},
		{api.OpGe, end, span{}}, {api.OpGe, api.MaxTime, span{api.MaxTime, end}}, {api.OpGe, first, span{first, end}}, {api.OpGe, math.MaxInt64, span{}},
		{api.OpEq, math.MaxInt64, span{}}, {api.OpEq, -math.MaxInt64, span{}}, {api.OpLt, -math.MaxInt64, span{}}, {api.OpLe, -math.MaxInt64, span{}},
		{api.OpGt, -math.MaxInt64, span{first, end}}, {api.OpGe, -math.MaxInt64, span{first, end}}, {api.OpLt, math.MaxInt64, span{first, end}},
		{api.OpNe, 5, span{first, end}}, {api.OpNe, math.MaxInt64, span{first, end}}, {api.OpEq, 0, span{0, 1}}, {api.OpEq, -1, span{-1, 0}},
	} {
		from, to, err := Span(at(c.op, c.n))
		if got := (span{from, to}); got != c.want || err != nil {
			t.Errorf("%s: %v, not %v: %v", textOf(at(c.op, c.n)), got, c.want, err)
		}
	}
}

// P16.1: the deepest conditions that may be; what Not tells of one may have a level more.
func TestDeepest(t *testing.T) {
	in := sample.Above(api.OpIn, sample.Tag("a"), sample.Text("x"), sample.Text("y"))
	chain := func(levels int, op func(i int) api.Op) []api.Node {
		l := in
		for i := 2; i < levels; i++ {
			switch o := op(i); o {
			case api.OpNot:
				l = sample.Over(o, l)
			default:
				l = sample.Over(o, l, sample.Above(api.OpEq, sample.Tag("b"), sample.Text("z")))
			}
		}
		return l
	}
	kinds := map[string]func(i int) api.Op{
		"NOT":        func(int) api.Op { return api.OpNot },
		"AND":        func(int) api.Op { return api.OpAnd },
		"AND and OR": func(i int) api.Op { return api.OpAnd + api.Op(i%2) },
		"all three":  func(i int) api.Op { return api.OpNot + api.Op(i%3) },
	}
	deeper := 0
	for name, op := range kinds {
		l := chain(api.MaxDeep, op)
		if ast.Depth(l) != api.MaxDeep {
			t.Fatalf("%s: %d levels", name, ast.Depth(l))
		}
		for call, a := range answers() {
			got, err := a.call(l)
			is(t, call, l, got, err, a.want(grow(l)))
			if ast.Depth(got) > api.MaxDeep {
				deeper++
			}
		}
		if got, err := Holds(l, []api.Tag{{Key: "a", Value: "x"}}, 0); err != nil || got != grow(l).truth([]api.Tag{{Key: "a", Value: "x"}}, 0) {
			t.Errorf("%s: %v, %v", name, got, err)
		}
		wrong(t, chain(api.MaxDeep+1, op), api.ErrDeep)
	}
	if deeper == 0 {
		t.Error("nothing has a level more")
	}
}

// wrong holds all calls of a condition that is none against an error.
func wrong(t *testing.T, l []api.Node, e api.Errno) {
	t.Helper()
	for _, a := range answers() {
		got, err := a.call(l)
		fails(t, l, err, e)
		if len(got) != 0 {
			t.Errorf("%v beside an error", got)
		}
	}
	truth, err := Holds(l, nil, 0)
	fails(t, l, err, e)
	from, to, bad := Span(l)
	fails(t, l, bad, e)
	if truth || from != 0 || to != 0 {
		t.Errorf("%v, %d, %d beside an error", truth, from, to)
	}
}

// P16.1: lists of nodes that are no condition.
func TestNoCondition(t *testing.T) {
	d := draw()
	spoilt := 0
	for range 20000 {
		l := d.Spoil(someCond(d, 4))
		if err := ast.Cond(l); err != nil {
			spoilt++
			wrong(t, l, api.ErrTree)
		}
	}
	if spoilt < 10000 {
		t.Errorf("%d were spoilt", spoilt)
	}
	wrong(t, nil, api.ErrTree)
	wrong(t, []api.Node{sample.Int(1)}, api.ErrTree)
	wrong(t, []api.Node{sample.Tag("a")}, api.ErrTree)
	wrong(t, sumOf(t, "1 + max(v)"), api.ErrTree)
}

// P16.2: the tags of any list.
func TestTags(t *testing.T) {
	if l := Tags(condOf(t, "b = 'x' AND (a = c OR NOT b IN ('a', 'd')) AND 'e' = a")); !slices.Equal(l, []string{"a", "b", "c"}) {
		t.Errorf("%q", l)
	}
	any := []api.Node{{Op: api.OpTag, S: "\xff", Kids: 7}, {Op: api.OpText, S: "t"}, {Op: api.OpTag}, {Op: api.OpCall, S: "f"}, {Op: api.OpTag, S: "\xff"}, {Op: 200, S: "g"}, {Op: api.OpTag, S: "time"}}
	if l := Tags(any); !slices.Equal(l, []string{"", "time", "\xff"}) {
		t.Errorf("%q", l)
	}
	if l := Tags(nil); len(l) != 0 {
		t.Errorf("%q", l)
	}
}

// P3: nothing that is handed in changes, nor what lies behind it; what is told lies by itself.
func TestMemory(t *testing.T) {
	d := draw()
	for range 5000 {
		l := someCond(d, 5)
		l = append(l, api.Node{Pos: 77})[:len(l)]
		before := slices.Clone(l[:len(l)+1])
		tags := someTags(d)
		for name, a := range answers() {
			got, _ := a.call(l)
			other, _ := a.call(l)
			for i := range got {
				got[i].S = "changed"
			}
			_ = append(got, api.Node{Pos: 88})
			is(t, name, l, other, nil, a.want(grow(l)))
		}
		Holds(l, tags, 5)
		Span(l)
		Tags(l)
		if !slices.Equal(before, l[:len(l)+1]) {
			t.Fatalf("%v, not %v", l[:len(l)+1], before)
		}
	}
}
