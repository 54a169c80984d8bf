package verify

import (
	"math/big"
	"slices"
	"testing"

	"weir/api"
	"weir/expect"
	"weir/sample"
)

// certainty tells anew what is certain ahead of each instruction of a filter: a letter for each truth
// on the stack (t, f, or ? for an open one), if it can be come to. It is asked from the end on.
type certainty struct {
	code  []api.Ins
	known map[int]*string
}

// ahead is what is certain ahead of an instruction; nil, if it cannot be come to.
func (c certainty) ahead(at int) *string {
	if known, there := c.known[at]; there {
		return known
	}
	var met *string
	if at == 0 {
		met = new(string)
	}
	for from := range at {
		if c.ahead(from) == nil || !c.leads(from, at) {
			continue
		}
		brought := c.behind(from)
		if met != nil {
			both := []byte(brought)
			for i := range both {
				if both[i] != (*met)[i] {
					both[i] = '?'
				}
			}
			brought = string(both)
		}
		met = &brought
	}
	c.known[at] = met
	return met
}

// leads tells whether an instruction that can be come to lets another one be come to.
func (c certainty) leads(from, to int) bool {
	i, stack := c.code[from], *c.ahead(from)
	next := to == from+1
	switch i.Code {
	case api.Accept:
		return false
	case api.JumpFalse, api.JumpTrue:
		top, stays := stack[len(stack)-1], byte('t')
		if i.Code == api.JumpTrue {
			stays = 'f'
		}
		return to == i.A && top != stays || next && (top == stays || top == '?')
	}
	return next
}

// behind is what is certain behind an instruction that can be come to.
func (c certainty) behind(at int) string {
	stack := *c.ahead(at)
	back := func(n int) (string, string) { return stack[:len(stack)-n], stack[len(stack)-n:] }
	switch c.code[at].Code {
	case api.PushTrue:
		return stack + "t"
	case api.PushFalse:
		return stack + "f"
	case api.PushTag, api.PushIn, api.PushSame, api.PushTime:
		return stack + "?"
	case api.JumpFalse, api.JumpTrue:
		return stack
	case api.Not:
		rest, top := back(1)
		return rest + map[string]string{"t": "f", "f": "t", "?": "?"}[top]
	case api.And:
		rest, top := back(2)
		return rest + map[string]string{"tt": "t", "ff": "f", "tf": "f", "ft": "f", "f?": "f", "?f": "f", "t?": "?", "?t": "?", "??": "?"}[top]
	case api.Or:
		rest, top := back(2)
		return rest + map[string]string{"tt": "t", "ff": "f", "tf": "t", "ft": "t", "f?": "?", "?f": "?", "t?": "t", "?t": "t", "??": "?"}[top]
	}
	rest, _ := back(1)
	return rest
}

// P19.2: Heights, Rises and Dead of any programs that pass.
func TestWays(t *testing.T) {
	d := draw()
	some := 0
	for i := range 30000 {
		p := d.Program(1 + i%25)
		heights, _ := Heights(p)
		rises, _ := Rises(p)
		for _, c := range []struct {
			code  []api.Ins
			all   table
			given []int
		}{{p.Filter, filters, heights}, {p.Output, outputs, rises}} {
			want, _ := highs(c.code, c.all)
			for at := range c.code {
				if !slices.Equal(want[at], c.given[at:at+1]) {
					t.Fatalf("%v: %v, not %v", c.code, c.given, want)
				}
			}
		}
		dead, err := Dead(p)
		fails(t, p, err, 0, expect.None)
		c := certainty{p.Filter, map[int]*string{}}
		var want []int
		for at := range p.Filter {
			if c.ahead(at) == nil {
				want = append(want, at)
			}
		}
		if !slices.Equal(dead, want) {
			t.Fatalf("%v: %v, not %v", p.Filter, dead, want)
		}
		if len(dead) > 0 {
			some++
		}
	}
	if some < 3000 {
		t.Errorf("%d had dead code", some)
	}
}

// P19.2: what is certain, instruction by instruction.
func TestDead(t *testing.T) {
	yes, no, ask := ins(api.PushTrue), ins(api.PushFalse), ins(api.PushTag)
	not, and, or, pop, accept := ins(api.Not), ins(api.And), ins(api.Or), ins(api.Pop), ins(api.Accept)
	// Behind some code stands a jump over two instructions.
	over := func(jump api.Code, ahead ...api.Ins) []api.Ins {
		return append(ahead, ins(jump, len(ahead)+3), pop, ask, accept)
	}
	const never = -1
	for name, c := range map[string]struct {
		ahead []api.Ins
		want  int // 1: the top is true, 0: it is false, never: it is open
	}{
		"true":             {[]api.Ins{yes}, 1},
		"false":            {[]api.Ins{no}, 0},
		"a tag":            {[]api.Ins{ask}, never},
		"a list":           {[]api.Ins{ins(api.PushIn)}, never},
		"two tags":         {[]api.Ins{ins(api.PushSame)}, never},
		"a time":           {[]api.Ins{ins(api.PushTime)}, never},
		"not true":         {[]api.Ins{yes, not}, 0},
		"not false":        {[]api.Ins{no, not}, 1},
		"not open":         {[]api.Ins{ask, not}, never},
		"true and true":    {[]api.Ins{yes, yes, and}, 1},
		"true and false":   {[]api.Ins{yes, no, and}, 0},
		"false and true":   {[]api.Ins{no, yes, and}, 0},
		"false and open":   {[]api.Ins{no, ask, and}, 0},
		"open and false":   {[]api.Ins{ask, no, and}, 0},
		"open and true":    {[]api.Ins{ask, yes, and}, never},
		"true and open":    {[]api.Ins{yes, ask, and}, never},
		"open and open":    {[]api.Ins{ask, ask, and}, never},
		"false or false":   {[]api.Ins{no, no, or}, 0},
		"true or false":    {[]api.Ins{yes, no, or}, 1},
		"false or true":    {[]api.Ins{no, yes, or}, 1},
		"open or true":     {[]api.Ins{ask, yes, or}, 1},
		"true or open":     {[]api.Ins{yes, ask, or}, 1},
		"open or false":    {[]api.Ins{ask, no, or}, never},
		"false or open":    {[]api.Ins{no, ask, or}, never},
		"one below":        {[]api.Ins{no, yes, pop}, 0},
		"both ways true":   {[]api.Ins{ask, ins(api.JumpTrue, 4), pop, yes, yes, and}, never},
		"what a jump asks": {[]api.Ins{ask, ins(api.JumpTrue, 2)}, never},
		"a jump that was":  {[]api.Ins{yes, ins(api.JumpFalse, 2)}, 1},
		// Two ways on which one thing is certain, and on which unlike things are.
		"alike":        {[]api.Ins{yes, ask, ins(api.JumpTrue, 7), pop, pop, yes, ask, pop}, 1},
		"unlike":       {[]api.Ins{yes, ask, ins(api.JumpTrue, 7), pop, pop, no, ask, pop}, never},
		"open in one":  {[]api.Ins{yes, ask, ins(api.JumpTrue, 7), pop, pop, ask, ask, pop}, never},
		"open at once": {[]api.Ins{ask, ask, ins(api.JumpTrue, 7), pop, pop, no, ask, pop}, never},
		"a way never":  {[]api.Ins{yes, no, ins(api.JumpTrue, 7), pop, pop, no, ask, pop}, 0},
	} {
		for _, jump := range []api.Code{api.JumpFalse, api.JumpTrue} {
			p := base()
			p.Filter = over(jump, c.ahead...)
			dead, err := Dead(p)
			fails(t, name, err, 0, expect.None)
			dead = slices.DeleteFunc(dead, func(at int) bool { return at < len(c.ahead) })
			var want []int
			if jumps := jump == api.JumpTrue; c.want != never && (c.want == 1) == jumps {
				want = []int{len(c.ahead) + 1, len(c.ahead) + 2}
			}
			if !slices.Equal(dead, want) {
				t.Errorf("%s, code %d: %v, not %v", name, jump, dead, want)
			}
		}
	}
	// An aim that only a jump comes to which is never done.
	p := base()
	p.Filter = []api.Ins{no, ins(api.JumpTrue, 4), ins(api.JumpFalse, 5), not, not, accept}
	if dead, err := Dead(p); err != nil || !slices.Equal(dead, []int{3, 4}) {
		t.Errorf("%v, %v", dead, err)
	}
	p.Filter = []api.Ins{ask, ins(api.JumpTrue, 4), ins(api.JumpFalse, 5), not, not, accept}
	if dead, err := Dead(p); err != nil || len(dead) > 0 {
		t.Errorf("%v, %v", dead, err)
	}
}

// P19.3: each run of a program that passes ends, and is as it was told.
func TestRuns(t *testing.T) {
	d := draw()
	jumped := 0
	for i := range 10000 {
		p := d.Program(1 + i%25)
		heights, _ := Heights(p)
		rises, _ := Rises(p)
		dead, _ := Dead(p)
		filter, output, _ := Bound(p)
		for range 6 {
			_, run := sample.Accepts(p.Filter, func(api.Ins) bool { return d(2) == 0 })
			if len(run) > filter {
				t.Fatalf("%v: %v", p.Filter, run)
			}
			if len(run) < filter {
				jumped++
			}
			for _, step := range run {
				if heights[step.At] != step.Height || slices.Contains(dead, step.At) {
					t.Fatalf("%v: %v, not %v, without %v", p.Filter, run, heights, dead)
				}
			}
		}
		told, run := sample.Emits(p, func(n int) api.Told { return sample.Whole(big.NewInt(int64(n))) })
		if len(run) > output || len(told) != len(p.Aliases) {
			t.Fatalf("%v: %v", p.Output, run)
		}
		for _, step := range run {
			if rises[step.At] != step.Height {
				t.Fatalf("%v: %v, not %v", p.Output, run, rises)
			}
		}
	}
	if jumped < 10000 {
		t.Errorf("%d runs jumped", jumped)
	}
}
