package num

import (
	"fmt"
	"math"
	"math/big"
	"math/bits"
	"testing"

	"weir/api"
)

// P2.4, P2.8
func TestWindow(t *testing.T) {
	for _, every := range someInts() {
		for _, offset := range offsets(every) {
			for _, at := range someInts() {
				got, err := Window(at, every, offset)
				if every < 1 || offset < 0 || offset >= every {
					fails(t, err, api.ErrRange)
					if got != 0 {
						t.Errorf("Window(%d, %d, %d): %d", at, every, offset, got)
					}
					continue
				}
				start := down(new(big.Int).Sub(whole(at), whole(offset)), whole(every))
				start.Mul(start, whole(every)).Add(start, whole(offset))
				tells(t, fmt.Sprint("Window of ", at, every, offset), got, err, start)
				if err == nil {
					sameWindow(t, got, at, every, offset)
				}
			}
		}
	}
}

// offsets are those at their limits, some that may be, some that may not.
func offsets(every int64) []int64 {
	return []int64{math.MinInt64, -1, 0, 1, 5, every / 2, every - 1, every, every + 1, math.MaxInt64}
}

// sameWindow asks P2.8 of an answer: how far it is from the time, and of the window's other times.
func sameWindow(t *testing.T, start, at, every, offset int64) {
	t.Helper()
	if far := new(big.Int).Sub(whole(at), whole(start)); far.Sign() < 0 || far.Cmp(whole(every)) >= 0 {
		t.Errorf("Window(%d, %d, %d) is %d", at, every, offset, start)
	}
	last, err := Add(start, every-1)
	if err != nil {
		last = math.MaxInt64
	}
	for _, other := range []int64{start, start + (last-start)/2, last} {
		if got, err := Window(other, every, offset); got != start || err != nil {
			t.Errorf("Window(%d, %d, %d): %d, %v, not %d", other, every, offset, got, err, start)
		}
	}
	if last == math.MaxInt64 {
		return
	}
	if got, err := Window(last+1, every, offset); got != last+1 || err != nil {
		t.Errorf("Window(%d, %d, %d): %d, %v", last+1, every, offset, got, err)
	}
}

// P2.4: the chapter's third example, and the limits.
func TestWindowExamples(t *testing.T) {
	for _, c := range []struct {
		t, every, offset, want int64
		e                      api.Errno
	}{
		{-1, 3600, 0, -3600, 0},
		{50, 3600, 100, -3500, 0},
		{100, 3600, 100, 100, 0},
		{math.MinInt64, 7, 0, 0, api.ErrOver},
		{math.MinInt64, 8, 0, math.MinInt64, 0},
		{math.MinInt64, 8, 1, 0, api.ErrOver},
		{math.MinInt64, 1, 0, math.MinInt64, 0},
		{math.MaxInt64, 1, 0, math.MaxInt64, 0},
		{math.MaxInt64, math.MaxInt64, 0, math.MaxInt64, 0},
		{math.MaxInt64, math.MaxInt64, math.MaxInt64 - 1, math.MaxInt64 - 1, 0},
		{-1, math.MaxInt64, math.MaxInt64 - 1, -1, 0},
		{-2, math.MaxInt64, math.MaxInt64 - 1, math.MinInt64, 0},
		{math.MinInt64, math.MaxInt64, math.MaxInt64 - 1, math.MinInt64, 0},
		{math.MinInt64, math.MaxInt64, 0, 0, api.ErrOver},
		{-api.MaxTime, api.MaxEvery, api.MaxEvery - 1, -api.MaxTime - 1, 0},
		{0, 0, 0, 0, api.ErrRange},
		{0, -1, 0, 0, api.ErrRange},
		{0, math.MinInt64, 0, 0, api.ErrRange},
		{0, 1, 1, 0, api.ErrRange},
		{0, 10, -1, 0, api.ErrRange},
		{0, 10, 10, 0, api.ErrRange},
		{0, 10, 9, -1, 0},
		{math.MinInt64, 7, 7, 0, api.ErrRange},
	} {
		got, err := Window(c.t, c.every, c.offset)
		if c.e != 0 {
			fails(t, err, c.e)
			c.want = 0
		} else if err != nil {
			t.Errorf("Window(%d, %d, %d): %v", c.t, c.every, c.offset, err)
		}
		if got != c.want {
			t.Errorf("Window(%d, %d, %d): %d", c.t, c.every, c.offset, got)
		}
	}
}

// P2.4
func TestLog(t *testing.T) {
	for k := range bits.UintSize - 1 {
		n := 1 << k
		for want, at := range map[int]int{k: n, k - 1: n - 1} {
			if at > 0 && Log(at) != want {
				t.Errorf("Log(%d): %d", at, Log(at))
			}
		}
		if k > 0 && (Log(n+1) != k || Log(n+(n-1)) != k) {
			t.Errorf("Log above %d", n)
		}
	}
	for _, n := range []int{0, -1, -2, -8, math.MinInt, math.MinInt + 1} {
		if Log(n) != 0 {
			t.Errorf("Log(%d): %d", n, Log(n))
		}
	}
	if Log(1) != 0 || Log(8) != 3 || Log(9) != 3 || Log(math.MaxInt) != bits.UintSize-2 {
		t.Error("Log")
	}
}
