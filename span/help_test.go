package span

import (
	"math"
	"math/rand"
	"testing"

	"weir/api"
	"weir/expect"
)

// fails holds an error against a number and a place.
func fails(t *testing.T, what string, err error, e api.Errno, pos int) {
	t.Helper()
	if wrong := expect.Wrong(err, e, pos, expect.None); wrong != "" {
		t.Errorf("%q: %v: %s", what, err, wrong)
	}
}

// draw is a source with a fixed seed, so that each run draws the same.
func draw() *rand.Rand { return rand.New(rand.NewSource(1970)) }

// someInts are int64's ends, small numbers, multiples of all units, and some drawn of all sizes.
func someInts() []int64 {
	all := []int64{math.MinInt64, math.MinInt64 + 1, math.MaxInt64 - 1, math.MaxInt64}
	for n := int64(-70); n <= 70; n++ {
		for _, size := range []int64{1, 1000, 1e6, 1e9, 60e9, 3600e9, 24 * 3600e9, 7 * 24 * 3600e9, 365 * 24 * 3600e9} {
			all = append(all, n*size, n*size+1, n*size-1)
		}
	}
	chance := draw()
	for k := range 4000 {
		all = append(all, int64(chance.Uint64())>>(k%64))
	}
	return all
}

// pick draws one of several.
func pick[T any](chance *rand.Rand, of ...T) T { return of[chance.Intn(len(of))] }
