package batch

import (
	"slices"
	"testing"
)

// rows goes through all orders of the numbers from 0 up to n.
func rows(n int, see func([]int)) {
	if n == 0 {
		see(nil)
		return
	}
	rows(n-1, func(l []int) {
		for at := range n {
			see(slices.Insert(slices.Clone(l), at, n-1))
		}
	})
}

func TestSorted(t *testing.T) {
	for n := range 9 {
		rows(n, func(l []int) {
			handed := slices.Clone(l)
			got := sorted(l, func(a, b int) bool { return a < b })
			if len(got) != n || !slices.IsSorted(got) || !slices.Equal(l, handed) {
				t.Fatalf("%v: %v", handed, got)
			}
		})
	}
}

// A row in order is gone through once, two such rows behind each other are merged,
// and no row takes more than a heap does.
func TestSortedAsksLittle(t *testing.T) {
	const n = 1 << 14
	for what, c := range map[string]struct {
		place func(i int) int
		most  int
	}{
		"rising":  {func(i int) int { return i }, n},
		"two":     {func(i int) int { return 2*(i%(n/2)) + 2*i/n }, 2 * n},
		"falling": {func(i int) int { return -i }, 2*14*n + n},
		"mixed":   {func(i int) int { return i * 7919 % n }, 2*14*n + n},
	} {
		l := make([]int, n)
		for i := range l {
			l[i] = c.place(i)
		}
		asked := 0
		got := sorted(l, func(a, b int) bool {
			asked++
			return a < b
		})
		if !slices.IsSorted(got) || asked > c.most {
			t.Errorf("%s: asked %d times, at most %d", what, asked, c.most)
		}
	}
}
