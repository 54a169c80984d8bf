package vm

import (
	"math"
	"reflect"
	"slices"
	"strconv"
	"strings"
	"testing"

	"weir/api"
	"weir/gen"
	"weir/norm"
	"weir/plan"
	"weir/sample"
	"weir/verify"
)

// The chapter's first example.
func TestFirstExample(t *testing.T) {
	p := base()
	p.Filter = []api.Ins{ins(api.PushTag, 0, 0), ins(api.Accept)}
	for host, want := range map[string]bool{"a": true, "b": false, "": false} {
		if got, steps, err := Match(p, []api.Tag{{Key: "host", Value: host}}, 0); got != want || steps != 2 || err != nil {
			t.Errorf("%q: %v, %d, %v", host, got, steps, err)
		}
	}
	p.Filter = []api.Ins{ins(api.PushFalse), ins(api.JumpFalse, 5), ins(api.Pop), ins(api.PushTrue), ins(api.Not), ins(api.Accept)}
	if got, steps, err := Match(p, nil, 0); got || steps != 3 || err != nil {
		t.Errorf("%v, %d, %v", got, steps, err)
	}
	for _, c := range []struct {
		code []api.Ins
		pos  int
	}{{[]api.Ins{ins(api.And), ins(api.Accept)}, 0}, {[]api.Ins{ins(api.PushTrue)}, 1}, {nil, 0}} {
		p.Filter = c.code
		got, steps, err := Match(p, nil, 0)
		if fails(t, c, err, c.pos); got || steps != 0 {
			t.Errorf("%v: %v, %d with an error", c, got, steps)
		}
	}
}

// The chapter's second example.
func TestSecondExample(t *testing.T) {
	p := api.Program{Accs: []api.Acc{{Func: api.Max, Field: "v"}}, Aliases: []string{"x"}, Ints: []int64{2}}
	p.Output = []api.Ins{ins(api.LoadAcc), ins(api.LoadInt), ins(api.Div), ins(api.Emit), ins(api.Done)}
	is := func(slot api.Slot, want api.Told) {
		t.Helper()
		if got, steps, err := Tell(p, []api.Slot{slot}); err != nil || steps != 5 || !slices.Equal(got, []api.Told{want}) {
			t.Errorf("%v: %v, %d, %v, not %v", slot, got, steps, err, want)
		}
	}
	is(api.Slot{}, api.Told{})
	is(api.Slot{N: 7, Sum: api.Sum{Lo: 7}}, api.Told{})
	is(api.Slot{Some: true, N: 7}, told(3))
	is(api.Slot{Some: true, N: -7}, told(-4))
	p.Ints[0] = 0
	is(api.Slot{Some: true, N: 7}, void)
	p.Ints[0] = math.MaxInt64
	p.Output[0], p.Output[2] = ins(api.LoadInt), ins(api.Add)
	is(api.Slot{}, over)
}

// The chapter's third example, and lines with operands and more truths.
func TestTrace(t *testing.T) {
	p := base()
	for _, c := range []struct {
		code []api.Ins
		want string
	}{
		{[]api.Ins{ins(api.PushTrue), ins(api.Not), ins(api.Accept)}, "0 pushtrue t\n1 not f\n2 accept -\n"},
		{
			[]api.Ins{
				ins(api.PushFalse), ins(api.PushTag, 0, 2), ins(api.PushTime, 5, 1), ins(api.PushIn, 1, 0), ins(api.Or), ins(api.And),
				ins(api.JumpTrue, 9), ins(api.JumpFalse, 9), ins(api.PushTrue), ins(api.Pop), ins(api.PushSame, 1, 2), ins(api.Or), ins(api.Accept),
			},
			"0 pushfalse f\n1 pushtag 0 2 ff\n2 pushtime 5 1 fft\n3 pushin 1 0 fftf\n4 or fft\n5 and ff\n" +
				"6 jumptrue 9 ff\n7 jumpfalse 9 ff\n9 pop f\n10 pushsame 1 2 ft\n11 or t\n12 accept -\n",
		},
		// All is taken off, and put on again.
		{[]api.Ins{ins(api.PushTrue), ins(api.Pop), ins(api.PushFalse), ins(api.Accept)}, "0 pushtrue t\n1 pop -\n2 pushfalse f\n3 accept -\n"},
		// Operands that are not used are not shown.
		{[]api.Ins{{Code: api.PushTrue, A: 5, B: -6}, {Code: api.JumpTrue, A: 2, B: 7}, {Code: api.Accept, A: 9}}, "0 pushtrue t\n1 jumptrue 2 t\n2 accept -\n"},
	} {
		p.Filter = c.code
		got, err := Trace(p, nil, 5)
		if fails(t, c.code, err, none); got != c.want {
			t.Errorf("%v: %q, not %q", c.code, got, c.want)
		}
	}
	p.Filter = []api.Ins{ins(api.PushTrue), ins(api.Not)}
	got, err := Trace(p, nil, 0)
	if fails(t, p.Filter, err, 2); got != "" {
		t.Errorf("%q with an error", got)
	}
}

// P24.1: what each question answers.
func TestQuestions(t *testing.T) {
	p := base()
	tags := []api.Tag{{Key: "zone", Value: "b"}, {Key: "host", Value: "a"}, {Key: "host", Value: "b"}}
	for _, c := range []struct {
		ask  api.Ins
		want bool
	}{
		{ins(api.PushTrue), true}, {ins(api.PushFalse), false},
		{ins(api.PushTag, 0, 0), true}, {ins(api.PushTag, 0, 2), false}, {ins(api.PushTag, 1, 2), true}, {ins(api.PushTag, 2, 1), true}, {ins(api.PushTag, 2, 0), false},
		{ins(api.PushIn, 0, 0), true}, {ins(api.PushIn, 1, 0), true}, {ins(api.PushIn, 2, 0), false}, {ins(api.PushIn, 2, 1), true}, {ins(api.PushIn, 0, 1), false}, {ins(api.PushIn, 0, 2), false},
		{ins(api.PushSame, 0, 0), true}, {ins(api.PushSame, 0, 1), false}, {ins(api.PushSame, 2, 2), true}, {ins(api.PushSame, 2, 0), false},
	} {
		p.Filter = []api.Ins{c.ask, ins(api.Accept)}
		if got, steps, err := Match(p, tags, 0); got != c.want || steps != 2 || err != nil {
			t.Errorf("%v: %v, %d, %v", c, got, steps, err)
		}
	}
	for _, n := range []int64{5, -7} {
		for _, at := range []int64{n - 1, n, n + 1, math.MinInt64, math.MaxInt64} {
			for sign, want := range []bool{at == n, at != n, at < n, at <= n, at > n, at >= n} {
				p.Filter = []api.Ins{ins(api.PushTime, sign, slices.Index(p.Times, n)), ins(api.Accept)}
				if got, _, err := Match(p, nil, at); got != want || err != nil {
					t.Errorf("%d at %d: %v, %v", sign, at, got, err)
				}
			}
		}
	}
}

// P24.1: what accumulators and ratios tell.
func TestLoads(t *testing.T) {
	p := base()
	large, small := api.Sum{Lo: 1 << 63}, api.Sum{Hi: -1, Lo: 1 << 63}
	for _, c := range []struct {
		load api.Ins
		a, b api.Slot
		want api.Told
	}{
		{ins(api.LoadAcc, 0), api.Slot{Some: true, N: 9, Sum: api.Sum{Lo: 4}}, api.Slot{}, told(4)},
		{ins(api.LoadAcc, 0), api.Slot{Some: true, Sum: large}, api.Slot{}, over},
		{ins(api.LoadAcc, 0), api.Slot{Some: true, Sum: small}, api.Slot{}, told(math.MinInt64)},
		{ins(api.LoadAcc, 0), api.Slot{Sum: large}, api.Slot{}, api.Told{}},
		{ins(api.LoadAcc, 1), api.Slot{}, api.Slot{Some: true, N: 3, Sum: large}, told(3)},
		{ins(api.LoadAcc, 1), api.Slot{Some: true}, api.Slot{N: 3}, api.Told{}},
		{ins(api.LoadInt, 3), api.Slot{}, api.Slot{}, told(math.MinInt64)},
		{ins(api.Ratio, 0, 1), api.Slot{Some: true, Sum: api.Sum{Hi: -1, Lo: math.MaxUint64 - 6}}, api.Slot{Some: true, N: 2}, told(-4)},
		{ins(api.Ratio, 0, 1), api.Slot{Some: true, Sum: large}, api.Slot{Some: true, N: 2}, told(1 << 62)},
		{ins(api.Ratio, 0, 1), api.Slot{Some: true, Sum: large}, api.Slot{Some: true, N: 1}, over},
		{ins(api.Ratio, 0, 1), api.Slot{Some: true, Sum: large}, api.Slot{Some: true, N: -1}, told(math.MinInt64)},
		{ins(api.Ratio, 0, 1), api.Slot{Some: true, Sum: large}, api.Slot{Some: true}, void},
		{ins(api.Ratio, 0, 1), api.Slot{Some: true, Sum: api.Sum{Hi: 5}}, api.Slot{Some: true, N: 3}, over},
		{ins(api.Ratio, 0, 1), api.Slot{Sum: large}, api.Slot{Some: true}, api.Told{}},
		{ins(api.Ratio, 0, 1), api.Slot{Some: true, Sum: large}, api.Slot{N: 2}, api.Told{}},
	} {
		p.Output = []api.Ins{c.load, ins(api.Emit, 1), ins(api.Done)}
		if got, steps, err := Tell(p, []api.Slot{c.a, c.b}); err != nil || steps != 3 || !slices.Equal(got, []api.Told{{}, c.want}) {
			t.Errorf("%v: %v, %d, %v", c, got, steps, err)
		}
	}
	// What an accumulator is of plays no part but for sums.
	p.Accs[2].Func = 77
	p.Output = []api.Ins{ins(api.LoadAcc, 2), ins(api.Emit, 0), ins(api.Done)}
	if got, _, err := Tell(p, []api.Slot{{}, {}, {Some: true, N: 6, Sum: large}}); err != nil || !slices.Equal(got, []api.Told{told(6), {}}) {
		t.Errorf("%v, %v", got, err)
	}
}

// P24.1: each way in which an instruction of a filter goes wrong.
func TestFilterFaults(t *testing.T) {
	yes, no, accept := ins(api.PushTrue), ins(api.PushFalse), ins(api.Accept)
	for name, c := range map[string]struct {
		code []api.Ins
		pos  int
	}{
		"code 0":                {[]api.Ins{yes, ins(0), accept}, 1},
		"code 255":              {[]api.Ins{yes, ins(255), accept}, 1},
		"behind the codes":      {[]api.Ins{yes, ins(api.Done + 1), accept}, 1},
		"of the output, done":   {[]api.Ins{ins(api.Done), accept}, 0},
		"of the output, load":   {[]api.Ins{ins(api.LoadInt), accept}, 0},
		"of the output, neg":    {[]api.Ins{yes, ins(api.Neg), accept}, 1},
		"tag, a name below":     {[]api.Ins{ins(api.PushTag, -1, 0), accept}, 0},
		"tag, a name above":     {[]api.Ins{ins(api.PushTag, 3, 0), accept}, 0},
		"tag, a text below":     {[]api.Ins{ins(api.PushTag, 0, -1), accept}, 0},
		"tag, a text above":     {[]api.Ins{ins(api.PushTag, 0, 3), accept}, 0},
		"in, a name above":      {[]api.Ins{ins(api.PushIn, 3, 0), accept}, 0},
		"in, a list above":      {[]api.Ins{ins(api.PushIn, 0, 3), accept}, 0},
		"in, a list below":      {[]api.Ins{ins(api.PushIn, 0, math.MinInt), accept}, 0},
		"same, a name above":    {[]api.Ins{ins(api.PushSame, 3, 0), accept}, 0},
		"same, another above":   {[]api.Ins{ins(api.PushSame, 0, math.MaxInt), accept}, 0},
		"time, a sign below":    {[]api.Ins{ins(api.PushTime, -1, 0), accept}, 0},
		"time, a sign above":    {[]api.Ins{ins(api.PushTime, 6, 0), accept}, 0},
		"time, a number above":  {[]api.Ins{ins(api.PushTime, 0, 2), accept}, 0},
		"time, a number below":  {[]api.Ins{ins(api.PushTime, 0, -1), accept}, 0},
		"not of nothing":        {[]api.Ins{ins(api.Not), accept}, 0},
		"and of one":            {[]api.Ins{yes, ins(api.And), accept}, 1},
		"or of one":             {[]api.Ins{yes, ins(api.Or), accept}, 1},
		"a jump of nothing":     {[]api.Ins{ins(api.JumpTrue, 1), accept}, 0},
		"another of nothing":    {[]api.Ins{ins(api.JumpFalse, 1), accept}, 0},
		"pop of nothing":        {[]api.Ins{ins(api.Pop), accept}, 0},
		"accept of nothing":     {[]api.Ins{accept}, 0},
		"accept of two":         {[]api.Ins{yes, no, accept}, 2},
		"a jump to itself":      {[]api.Ins{yes, ins(api.JumpTrue, 1), accept}, 1},
		"a jump back":           {[]api.Ins{yes, ins(api.JumpTrue, 0), accept}, 1},
		"a jump far back":       {[]api.Ins{yes, ins(api.JumpTrue, -1), accept}, 1},
		"a jump too far":        {[]api.Ins{yes, ins(api.JumpTrue, 4), accept}, 1},
		"a jump not done, back": {[]api.Ins{yes, ins(api.JumpFalse, 1), accept}, 1},
		"a jump not done, far":  {[]api.Ins{no, ins(api.JumpTrue, 4), accept}, 1},
		"a jump to the end":     {[]api.Ins{yes, ins(api.JumpTrue, 3), accept}, 3},
		"the end is come to":    {[]api.Ins{yes, no, ins(api.Or)}, 3},
	} {
		p := base()
		p.Filter = c.code
		got, steps, err := Match(p, nil, 0)
		if fails(t, name, err, c.pos); got || steps != 0 {
			t.Errorf("%s: %v, %d with an error", name, got, steps)
		}
		trace, err := Trace(p, nil, 0)
		if fails(t, name, err, c.pos); trace != "" {
			t.Errorf("%s: %q with an error", name, trace)
		}
	}
	// What is not come to goes not wrong, nor does a jump to the end that is not done, nor operands that are not used.
	for name, c := range map[string]struct {
		code  []api.Ins
		steps int
	}{
		"over what is wrong":         {[]api.Ins{yes, ins(api.JumpTrue, 3), ins(99), accept}, 3},
		"behind accept":              {[]api.Ins{yes, accept, ins(99)}, 2},
		"to the end, but not done":   {[]api.Ins{yes, ins(api.JumpFalse, 3), accept}, 3},
		"operands that are not used": {[]api.Ins{{Code: api.PushTrue, A: -1, B: 99}, {Code: api.JumpTrue, A: 2, B: -5}, {Code: api.Accept, A: math.MinInt, B: math.MaxInt}}, 3},
	} {
		p := base()
		p.Filter = c.code
		if got, steps, err := Match(p, nil, 0); !got || steps != c.steps || err != nil {
			t.Errorf("%s: %v, %d, %v", name, got, steps, err)
		}
	}
}

// P24.1: each way in which an instruction of an output goes wrong.
func TestOutputFaults(t *testing.T) {
	load, emit, done := ins(api.LoadInt), ins(api.Emit), ins(api.Done)
	for name, c := range map[string]struct {
		code []api.Ins
		pos  int
	}{
		"no code":                  {nil, 0},
		"code 0":                   {[]api.Ins{load, ins(0)}, 1},
		"code 255":                 {[]api.Ins{ins(255)}, 0},
		"behind the codes":         {[]api.Ins{load, ins(api.Done + 1)}, 1},
		"of the filter, true":      {[]api.Ins{ins(api.PushTrue), done}, 0},
		"of the filter, accept":    {[]api.Ins{load, ins(api.Accept)}, 1},
		"an accumulator above":     {[]api.Ins{ins(api.LoadAcc, 5), emit, done}, 0},
		"an accumulator below":     {[]api.Ins{ins(api.LoadAcc, -1), emit, done}, 0},
		"a slot that is not there": {[]api.Ins{ins(api.LoadAcc, 3), emit, done}, 0},
		"a number above":           {[]api.Ins{ins(api.LoadInt, 5), emit, done}, 0},
		"a number below":           {[]api.Ins{ins(api.LoadInt, math.MinInt), emit, done}, 0},
		"ratio, above":             {[]api.Ins{ins(api.Ratio, 5, 1), emit, done}, 0},
		"ratio, below":             {[]api.Ins{ins(api.Ratio, 0, -1), emit, done}, 0},
		"ratio, by another field":  {[]api.Ins{ins(api.Ratio, 0, 3), emit, done}, 0},
		"ratio, by no count":       {[]api.Ins{ins(api.Ratio, 0, 2), emit, done}, 0},
		"ratio, by itself":         {[]api.Ins{ins(api.Ratio, 0, 0), emit, done}, 0},
		"ratio, of no sum":         {[]api.Ins{ins(api.Ratio, 1, 1), emit, done}, 0},
		"ratio, without slots":     {[]api.Ins{ins(api.Ratio, 4, 3), emit, done}, 0},
		"neg of nothing":           {[]api.Ins{ins(api.Neg), done}, 0},
		"add of one":               {[]api.Ins{load, ins(api.Add), emit, done}, 1},
		"sub of one":               {[]api.Ins{load, ins(api.Sub), emit, done}, 1},
		"mul of one":               {[]api.Ins{load, ins(api.Mul), emit, done}, 1},
		"div of one":               {[]api.Ins{load, ins(api.Div), emit, done}, 1},
		"mod of one":               {[]api.Ins{load, ins(api.Mod), emit, done}, 1},
		"emit of nothing":          {[]api.Ins{emit, done}, 0},
		"emit, above":              {[]api.Ins{load, ins(api.Emit, 2), done}, 1},
		"emit, below":              {[]api.Ins{load, ins(api.Emit, -1), done}, 1},
		"emit twice":               {[]api.Ins{load, emit, load, emit, done}, 3},
		"emit nothing twice":       {[]api.Ins{ins(api.LoadAcc, 0), emit, load, emit, done}, 3},
		"done with one left":       {[]api.Ins{load, done}, 1},
		"the end is come to":       {[]api.Ins{load, emit}, 2},
	} {
		p := base()
		p.Output = c.code
		got, steps, err := Tell(p, make([]api.Slot, 3))
		if fails(t, name, err, c.pos); got != nil || steps != 0 {
			t.Errorf("%s: %v, %d with an error", name, got, steps)
		}
	}
	p := base()
	// What stands behind done is not come to; operands that are not used play no part; what is not emitted tells nothing.
	p.Output = []api.Ins{{Code: api.LoadInt, B: -9}, {Code: api.Neg, A: 99, B: 99}, {Code: api.Emit, A: 1, B: 5}, {Code: api.Done, A: 7}, ins(99)}
	if got, steps, err := Tell(p, nil); err != nil || steps != 4 || !slices.Equal(got, []api.Told{{}, told(-2)}) {
		t.Errorf("%v, %d, %v", got, steps, err)
	}
	p.Output = []api.Ins{done}
	if got, steps, err := Tell(p, nil); err != nil || steps != 1 || !slices.Equal(got, []api.Told{{}, {}}) {
		t.Errorf("%v, %d, %v", got, steps, err)
	}
	if got, steps, err := Tell(api.Program{Output: p.Output}, nil); err != nil || steps != 1 || len(got) > 0 {
		t.Errorf("%v, %d, %v", got, steps, err)
	}
}

// P24.1: the stack may be as high as MaxStack, and not higher.
func TestHighest(t *testing.T) {
	p := base()
	for _, high := range []int{api.MaxStack - 1, api.MaxStack, api.MaxStack + 1} {
		for _, push := range []api.Ins{ins(api.PushTrue), ins(api.PushFalse), ins(api.PushTag), ins(api.PushIn), ins(api.PushSame), ins(api.PushTime)} {
			// Ahead of the ways down stand instructions that leave a full stack as it is.
			p.Filter = slices.Concat(slices.Repeat([]api.Ins{push}, high), []api.Ins{ins(api.Not), ins(api.JumpTrue, high+2)}, slices.Repeat([]api.Ins{ins(api.Or)}, high-1), []api.Ins{ins(api.Accept)})
			_, steps, err := Match(p, nil, 0)
			if high > api.MaxStack {
				fails(t, high, err, api.MaxStack)
			} else if fails(t, high, err, none); steps != len(p.Filter) {
				t.Errorf("%d: %d steps", high, steps)
			}
		}
		for _, load := range []api.Ins{ins(api.LoadAcc), ins(api.LoadInt), ins(api.Ratio, 0, 1)} {
			p.Output = slices.Concat(slices.Repeat([]api.Ins{load}, high), []api.Ins{ins(api.Neg)}, slices.Repeat([]api.Ins{ins(api.Add)}, high-1), []api.Ins{ins(api.Emit), ins(api.Done)})
			_, steps, err := Tell(p, make([]api.Slot, 5))
			if high > api.MaxStack {
				fails(t, high, err, api.MaxStack)
			} else if fails(t, high, err, none); steps != len(p.Output) {
				t.Errorf("%d: %d steps", high, steps)
			}
		}
	}
}

// Code may be long: it is run all the same.
func TestLongCode(t *testing.T) {
	const many = 300000
	p := base()
	p.Filter = slices.Concat([]api.Ins{ins(api.PushTrue)}, slices.Repeat([]api.Ins{ins(api.Not)}, many), []api.Ins{ins(api.Accept)})
	if got, steps, err := Match(p, nil, 0); !got || steps != many+2 || err != nil {
		t.Errorf("%v, %d, %v", got, steps, err)
	}
	p.Filter[0], p.Filter[1] = ins(api.PushFalse), ins(api.JumpFalse, many+1)
	if got, steps, err := Match(p, nil, 0); got || steps != 3 || err != nil {
		t.Errorf("%v, %d, %v", got, steps, err)
	}
	p.Output = slices.Concat([]api.Ins{ins(api.LoadInt)}, slices.Repeat([]api.Ins{ins(api.Neg)}, many), []api.Ins{ins(api.Emit), ins(api.Done)})
	if got, steps, err := Tell(p, nil); steps != many+3 || err != nil || got[0] != told(2) {
		t.Errorf("%v, %d, %v", got, steps, err)
	}
}

// P24.1, P24.2: all short filters and outputs of some instructions, told anew.
func TestShortCode(t *testing.T) {
	filters := []api.Ins{
		ins(api.PushTrue), ins(api.PushFalse), ins(api.PushTag), ins(api.PushTime, 2, 0), ins(api.PushTag, 0, 9), ins(api.Not), ins(api.And), ins(api.Or),
		ins(api.JumpTrue, 2), ins(api.JumpFalse, 2), ins(api.JumpTrue, 4), ins(api.JumpFalse, 4), ins(api.Pop), ins(api.Accept), ins(api.Done),
	}
	outputs := []api.Ins{
		ins(api.LoadAcc), ins(api.LoadAcc, 1), ins(api.LoadInt), ins(api.LoadInt, 1), ins(api.Ratio, 0, 1), ins(api.Ratio, 1, 1), ins(api.Neg), ins(api.Add), ins(api.Sub),
		ins(api.Mul), ins(api.Div), ins(api.Mod), ins(api.Emit), ins(api.Emit, 1), ins(api.Done),
	}
	well := [2]int{}
	p, slots := base(), []api.Slot{{Some: true, Sum: api.Sum{Lo: 7}}, {Some: true, N: 2}}
	var each func(left int)
	each = func(left int) {
		filter, output := held(t, p, []api.Tag{{Key: "host", Value: "a"}}, 6, slots)
		if filter {
			well[0]++
		}
		if output {
			well[1]++
		}
		if left == 0 || t.Failed() {
			return
		}
		at := len(p.Filter)
		p.Filter, p.Output = append(p.Filter, api.Ins{}), append(p.Output, api.Ins{})
		for i := range filters {
			p.Filter[at], p.Output[at] = filters[i], outputs[i]
			each(left - 1)
		}
		p.Filter, p.Output = p.Filter[:at], p.Output[:at]
	}
	each(4)
	// Filter and output are drawn side by side, so that most go wrong in one of them.
	if well[0] < 1000 || well[1] < 1000 {
		t.Errorf("%v went well", well)
	}
}

// P24.1, P24.2: any programs, told anew.
func TestAnyPrograms(t *testing.T) {
	d := draw()
	filters, outputs := 0, 0
	for i := range 30000 {
		p := d.Program(1 + i%20)
		for range d(4) {
			p = d.Broken(p)
		}
		for range 3 {
			tags, at := someTags(d, p)
			filter, output := held(t, p, tags, at, someSlots(d, max(0, len(p.Accs)+sample.One(d, 0, 0, 0, 1, -1))))
			if !filter {
				filters++
			}
			if !output {
				outputs++
			}
		}
		if t.Failed() {
			t.FailNow()
		}
	}
	if filters < 10000 || filters > 80000 || outputs < 10000 || outputs > 80000 {
		t.Errorf("%d filters and %d outputs went wrong", filters, outputs)
	}
}

// P24.3, P24.5 (E9): what passes does not go wrong, and runs as it was told ahead.
func TestPassing(t *testing.T) {
	d := draw()
	passed := 0
	for i := range 15000 {
		p := d.Program(1 + i%25)
		if i%3 == 0 {
			p = d.Broken(p)
		}
		heights, err := verify.Heights(p)
		if err != nil {
			continue
		}
		passed++
		dead, _ := verify.Dead(p)
		most, rest, _ := verify.Bound(p)
		for range 3 {
			tags, at := someTags(d, p)
			_, steps, err := Match(p, tags, at)
			trace, again := Trace(p, tags, at)
			lines := strings.Split(strings.TrimSuffix(trace, "\n"), "\n")
			if err != nil || again != nil || steps < 1 || steps > most || steps > len(p.Filter) || len(lines) != steps {
				t.Fatalf("%v: %d steps, %v", p, steps, err)
			}
			high := 0
			for _, line := range lines {
				words := strings.Fields(line)
				n, _ := strconv.Atoi(words[0])
				if heights[n] != high || slices.Contains(dead, n) {
					t.Fatalf("%v: %s, not %v without %v", p, trace, heights, dead)
				}
				high = len(strings.TrimPrefix(words[len(words)-1], "-"))
			}
			got, steps, err := Tell(p, someSlots(d, len(p.Accs)+d(2)))
			if err != nil || steps != rest || len(got) != len(p.Aliases) {
				t.Fatalf("%v: %v, %d steps, %v", p, got, steps, err)
			}
		}
	}
	if passed < 10000 {
		t.Errorf("%d passed", passed)
	}
}

// tellTree is what a plan's sum tells of slots, told anew.
func tellTree(tree sample.Tree, accs []api.Acc, l []api.Slot) api.Told {
	switch tree.Op {
	case api.OpInt:
		return told(tree.N)
	case api.OpAcc:
		return slotTold(accs[tree.N], l[tree.N])
	case api.OpRatio:
		return ratioTold(l[tree.Under[0].N], l[tree.Under[1].N])
	}
	var kids []api.Told
	for _, kid := range tree.Under {
		kids = append(kids, tellTree(kid, accs, l))
	}
	return sample.Operator(tree.Op, kids...)
}

// P24.4: what is made of a plan answers what its condition holds of, and tells what its trees tell.
func TestPlans(t *testing.T) {
	d := draw()
	yes, no := 0, 0
	for i := range 6000 {
		whole := d.Plan()
		if i%2 == 0 {
			better, err := plan.Improve(whole)
			if err != nil {
				t.Fatal(err)
			}
			whole = better
		}
		p, err := gen.Make(whole)
		if err != nil {
			t.Fatal(err)
		}
		for range 5 {
			tags, at := d.Asked(whole.Where)
			want := true
			if len(whole.Where) > 0 {
				want, _ = norm.Holds(whole.Where, tags, at)
			}
			if got, _, err := Match(p, tags, at); got != want || err != nil {
				t.Fatalf("%v of %v at %d: %v, %v", whole.Where, tags, at, got, err)
			}
			if want {
				yes++
			} else {
				no++
			}
			l := someSlots(d, len(whole.Accs))
			got, _, err := Tell(p, l)
			if err != nil || len(got) != len(whole.Outs) {
				t.Fatalf("%v of %v: %v, %v", whole, l, got, err)
			}
			for k, out := range whole.Outs {
				if want := tellTree(sample.Grown(out.Tree), whole.Accs, l); got[k] != want {
					t.Fatalf("%v of %v: %v, not %v", out, l, got[k], want)
				}
			}
		}
	}
	if yes < 5000 || no < 5000 {
		t.Errorf("%d held, %d did not", yes, no)
	}
}

// P1: a program that is zero in all, and tags of any kind.
func TestZero(t *testing.T) {
	held(t, api.Program{}, nil, 0, nil)
	p := base()
	p.Names, p.Texts, p.Lists = []string{"", "\xff", "time"}, []string{"", "\n"}, [][]string{nil, {"\xff", ""}}
	tags := []api.Tag{{Key: "time", Value: "\n"}, {Key: "", Value: "\xff"}, {}, {Key: "time"}}
	for a := range p.Names {
		for b := range p.Lists {
			p.Filter = []api.Ins{ins(api.PushTag, a, b), ins(api.PushIn, a, b), ins(api.And), ins(api.PushSame, a, b), ins(api.Or), ins(api.Accept)}
			if filter, _ := held(t, p, tags, 0, nil); !filter {
				t.Errorf("%v went wrong", p.Filter)
			}
		}
	}
}

// P3: what is handed in stays, and what is told lies by itself.
func TestMemory(t *testing.T) {
	d := draw()
	for range 2000 {
		p := d.Program(1 + d(15))
		if d(3) == 0 {
			p = d.Broken(p)
		}
		tags, at := someTags(d, p)
		l := someSlots(d, len(p.Accs))
		in, inTags, inSlots := sample.CopyProgram(p), sample.Room(tags, api.Tag{Key: "spare"}), sample.Room(l, api.Slot{N: 99})
		got, _, _ := Tell(in, inSlots)
		kept := slices.Clone(got)
		sample.Fill(got, told(77))
		if again, _, _ := Tell(in, inSlots); !slices.Equal(again, kept) {
			t.Fatalf("%v, not %v", again, kept)
		}
		first, _, _ := Match(in, inTags, at)
		if second, _, _ := Match(p, tags, at); first != second {
			t.Fatalf("%v, not %v", first, second)
		}
		if !reflect.DeepEqual(sample.SpareProgram(in), sample.SpareProgram(sample.CopyProgram(p))) {
			t.Fatalf("%v, not %v", in, p)
		}
		if !slices.Equal(sample.Spare(inTags), append(slices.Clone(tags), api.Tag{Key: "spare"})) || !slices.Equal(sample.Spare(inSlots), append(slices.Clone(l), api.Slot{N: 99})) {
			t.Fatalf("%v, %v, not %v, %v", inTags, inSlots, tags, l)
		}
	}
}
