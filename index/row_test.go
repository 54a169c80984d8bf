package index

import (
	"slices"
	"testing"
)

// subset are the numbers whose bits are set.
func subset(set int) []int {
	var row []int
	for i := range 6 {
		if set>>i&1 == 1 {
			row = append(row, i)
		}
	}
	return row
}

// Each two rows out of six things: bits tell what is joined, met and taken off.
func TestRows(t *testing.T) {
	for a := range 1 << 6 {
		for b := range 1 << 6 {
			x, y := subset(a), subset(b)
			if got := join(x, y); !slices.Equal(got, subset(a|b)) {
				t.Errorf("%v and %v joined: %v", x, y, got)
			}
			if got := meet(x, y); !slices.Equal(got, subset(a&b)) {
				t.Errorf("%v and %v met: %v", x, y, got)
			}
			if got := without(x, y); !slices.Equal(got, subset(a&^b)) {
				t.Errorf("%v without %v: %v", x, y, got)
			}
			if !slices.Equal(x, subset(a)) || !slices.Equal(y, subset(b)) {
				t.Errorf("%v, %v are other ones", x, y)
			}
		}
		for i := range 6 {
			if got := drop(subset(a|1<<i), i); !slices.Equal(got, subset(a&^(1<<i))) {
				t.Errorf("%v without %d: %v", subset(a|1<<i), i, got)
			}
		}
	}
}

func TestManyRows(t *testing.T) {
	chance := draw()
	for range 20000 {
		var rows [][]int
		all := chance.Intn(1 << 6)
		union, section := 0, all
		for range chance.Intn(8) {
			set := chance.Intn(1<<6) & chance.Intn(1<<6)
			rows = append(rows, subset(set))
			union, section = union|set, section&set
		}
		if got := joinAll(slices.Values(rows)); !slices.Equal(got, subset(union)) {
			t.Fatalf("%v: %v", rows, got)
		}
		if got := meetAll(subset(all), slices.Values(rows)); !slices.Equal(got, subset(section)) {
			t.Fatalf("%v: %v", rows, got)
		}
	}
}

func TestRowsOfTexts(t *testing.T) {
	a, b := []string{"a", "c"}, []string{"b", "c", "d"}
	if got := join(a, b); !slices.Equal(got, []string{"a", "b", "c", "d"}) {
		t.Errorf("%v", got)
	}
	if got := meet(a, b); !slices.Equal(got, []string{"c"}) {
		t.Errorf("%v", got)
	}
	if got := without(b, a); !slices.Equal(got, []string{"b", "d"}) {
		t.Errorf("%v", got)
	}
}
