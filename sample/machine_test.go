package sample

import (
	"maps"
	"slices"
	"testing"

	"weir/api"
)

func TestAccepts(t *testing.T) {
	asked := api.Ins{Code: api.PushTag}
	both := []api.Ins{asked, asked, {Code: api.And}, {Code: api.Accept}}
	one := []api.Ins{asked, asked, {Code: api.Or}, {Code: api.Not}, {Code: api.Accept}}
	jump := []api.Ins{asked, {Code: api.JumpTrue, A: 4}, {Code: api.Pop}, {Code: api.PushFalse}, {Code: api.Accept}}
	falls := []api.Ins{asked, {Code: api.JumpFalse, A: 4}, {Code: api.Pop}, asked, {Code: api.Accept}}
	for _, c := range []struct {
		code    []api.Ins
		answers []bool
		want    bool
		run     []Step
	}{
		{both, []bool{true, true}, true, []Step{{0, 0}, {1, 1}, {2, 2}, {3, 1}}},
		{both, []bool{true, false}, false, nil},
		{both, []bool{false, true}, false, nil},
		{one, []bool{false, true}, false, nil},
		{one, []bool{true, false}, false, nil},
		{one, []bool{false, false}, true, []Step{{0, 0}, {1, 1}, {2, 2}, {3, 1}, {4, 1}}},
		{jump, []bool{true}, true, []Step{{0, 0}, {1, 1}, {4, 1}}},
		{jump, []bool{false}, false, []Step{{0, 0}, {1, 1}, {2, 1}, {3, 0}, {4, 1}}},
		{falls, []bool{false}, false, []Step{{0, 0}, {1, 1}, {4, 1}}},
		{falls, []bool{true, true}, true, []Step{{0, 0}, {1, 1}, {2, 1}, {3, 0}, {4, 1}}},
	} {
		answers := c.answers
		got, run := Accepts(c.code, func(api.Ins) bool {
			first := answers[0]
			answers = answers[1:]
			return first
		})
		if got != c.want || c.run != nil && !slices.Equal(run, c.run) {
			t.Errorf("%v: %v, %v", c, got, run)
		}
	}
}

func TestEmits(t *testing.T) {
	p := api.Program{Ints: []int64{7, 2}, Output: []api.Ins{
		{Code: api.LoadInt}, {Code: api.LoadInt, A: 1}, {Code: api.Sub}, {Code: api.Neg}, {Code: api.Emit, A: 1},
		{Code: api.Ratio, A: 5, B: 3}, {Code: api.LoadAcc, A: 4}, {Code: api.Mul}, {Code: api.Emit}, {Code: api.Done},
	}}
	got, run := Emits(p, func(n int) api.Told { return told(int64(n)) })
	heights := []int{0, 1, 2, 1, 1, 0, 1, 2, 1, 0}
	for i, step := range run {
		if step != (Step{i, heights[i]}) {
			t.Errorf("%v", run)
		}
	}
	if !maps.Equal(got, map[int]api.Told{0: told(4), 1: told(-5)}) || len(run) != len(heights) {
		t.Errorf("%v, %v", got, run)
	}
}
