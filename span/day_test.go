package span

import (
	"math"
	"testing"
	"time"

	"weir/api"
	"weir/expect"
)

// The chapter's third example.
func TestDayExamples(t *testing.T) {
	for _, c := range []struct{ year, month, day, want int }{
		{1970, 1, 1, 0}, {2000, 2, 29, 11016}, {1969, 12, 31, -1}, {0, 1, 1, -719528}, {0, 2, 29, -719469}, {9999, 12, 31, 2932896},
	} {
		if n, err := Day(c.year, c.month, c.day); n != c.want || err != nil {
			t.Errorf("%v: %d, %v", c, n, err)
		}
		if y, m, d := Date(c.want); y != c.year || m != c.month || d != c.day {
			t.Errorf("%v: %d, %d, %d", c, y, m, d)
		}
	}
}

// P4.3
func TestNoDays(t *testing.T) {
	for _, c := range [][3]int{
		{2100, 2, 29}, {2023, 2, 29}, {1900, 2, 29}, {2024, 2, 30}, {2024, 4, 31}, {2024, 1, 32}, {2024, 1, 0}, {2024, 1, -1},
		{2024, 0, 1}, {2024, 13, 1}, {2024, -1, 1}, {-1, 1, 1}, {10000, 1, 1}, {-4, 2, 29},
		{math.MinInt, 1, 1}, {math.MaxInt, 1, 1}, {2024, math.MinInt, 1}, {2024, math.MaxInt, 1}, {2024, 1, math.MinInt}, {2024, 1, math.MaxInt},
	} {
		n, err := Day(c[0], c[1], c[2])
		fails(t, "a day", err, api.ErrTime, expect.None)
		if n != 0 {
			t.Errorf("%v: %d beside an error", c, n)
		}
	}
	for _, n := range []int{-719529, 2932897, -719528 - 146097, 2932896 + 146097, math.MinInt, math.MaxInt, math.MinInt + 719528, math.MaxInt - 719528} {
		if y, m, d := Date(n); y != 0 || m != 0 || d != 0 {
			t.Errorf("%d: %d, %d, %d", n, y, m, d)
		}
	}
}

// P4.3, P4.6: day by day, from the first to the last one.
func TestEachDay(t *testing.T) {
	n := -719528
	for year := range 10000 {
		for month := 1; month <= 12; month++ {
			last := time.Date(year, time.Month(month)+1, 0, 0, 0, 0, 0, time.UTC).Day()
			for day := 1; day <= last; day++ {
				if got, err := Day(year, month, day); got != n || err != nil {
					t.Fatalf("%d-%d-%d: %d, %v, not %d", year, month, day, got, err, n)
				}
				if y, m, d := Date(n); y != year || m != month || d != day {
					t.Fatalf("%d: %d-%d-%d, not %d-%d-%d", n, y, m, d, year, month, day)
				}
				n++
			}
			if _, err := Day(year, month, last+1); err == nil {
				t.Fatalf("%d-%d-%d: no error", year, month, last+1)
			}
		}
	}
	if n != 2932897 {
		t.Errorf("%d", n)
	}
}
