package num

import (
	"math"
	"math/big"
	"math/rand"
	"testing"

	"weir/api"
	"weir/expect"
)

// The tests hold each answer against math/big's. Where numbers are drawn the
// seed is fixed, so that each run draws the same.

func draw() *rand.Rand { return rand.New(rand.NewSource(1970)) }

// someInts are int64's ends, powers of 2 with their neighbours, small numbers, and some drawn of all sizes.
func someInts() []int64 {
	l := []int64{math.MinInt64, math.MinInt64 + 1, math.MaxInt64 - 1, math.MaxInt64, 3037000499, 3037000500, -3037000500}
	for n := int64(-12); n <= 12; n++ {
		l = append(l, n)
	}
	for _, k := range []uint{15, 31, 32, 33, 61, 62} {
		for d := int64(-1); d <= 1; d++ {
			l = append(l, 1<<k+d, -1<<k+d)
		}
	}
	r := draw()
	for k := range 60 {
		l = append(l, int64(r.Uint64())>>k)
	}
	return l
}

// someSums are those at the edges of their halves, and some drawn.
func someSums() []api.Sum {
	var l []api.Sum
	for _, hi := range []int64{math.MinInt64, math.MinInt64 + 1, -1 << 62, -2, -1, 0, 1, 2, 1 << 62, math.MaxInt64 - 1, math.MaxInt64} {
		for _, lo := range []uint64{0, 1, 9, 10, 1<<63 - 1, 1 << 63, 1<<63 + 1, 1<<64 - 2, 1<<64 - 1} {
			l = append(l, api.Sum{Hi: hi, Lo: lo})
		}
	}
	r := draw()
	for k := range 64 {
		l = append(l, api.Sum{Hi: int64(r.Uint64()) >> k, Lo: r.Uint64()}, api.Sum{Lo: r.Uint64() >> k})
	}
	return l
}

func whole(n int64) *big.Int { return big.NewInt(n) }

// wholeSum reckons as the chapter's words say: Hi times 2^64, and Lo.
func wholeSum(s api.Sum) *big.Int {
	n := new(big.Int).Lsh(whole(s.Hi), 64)
	return n.Add(n, new(big.Int).SetUint64(s.Lo))
}

// down is a by b, rounded down.
func down(a, b *big.Int) *big.Int {
	q, m := new(big.Int).QuoRem(a, b, new(big.Int))
	if m.Sign() != 0 && m.Sign() != b.Sign() {
		q.Sub(q, whole(1))
	}
	return q
}

// fails tells of an error other than this one, alone.
func fails(t *testing.T, err error, e api.Errno) {
	t.Helper()
	if wrong := expect.Wrong(err, e, expect.None, expect.None); wrong != "" {
		t.Errorf("%v: %s", err, wrong)
	}
}

// tells holds an answer against a whole number: ErrOver, where int64 does not do.
func tells(t *testing.T, what string, got int64, err error, want *big.Int) {
	t.Helper()
	if !want.IsInt64() {
		fails(t, err, api.ErrOver)
		want = whole(0)
	} else if err != nil {
		t.Errorf("%s: %v", what, err)
	}
	if got != want.Int64() {
		t.Errorf("%s: %d, not %d", what, got, want)
	}
}
