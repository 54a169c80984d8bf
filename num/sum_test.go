package num

import (
	"fmt"
	"math"
	"math/big"
	"slices"
	"testing"

	"weir/api"
)

// round is what a whole number becomes where it goes round by 2^128.
func round(n *big.Int) *big.Int {
	half := new(big.Int).Lsh(whole(1), 127)
	n = new(big.Int).Add(n, half)
	n.Mod(n, new(big.Int).Lsh(whole(1), 128))
	return n.Sub(n, half)
}

// P2.2, P2.6
func TestPlusMinus(t *testing.T) {
	for _, s := range someSums() {
		for _, n := range someInts() {
			more, fewer := Plus(s, n), Minus(s, n)
			if want := round(new(big.Int).Add(wholeSum(s), whole(n))); wholeSum(more).Cmp(want) != 0 {
				t.Errorf("Plus(%v, %d): %v", s, n, more)
			}
			if want := round(new(big.Int).Sub(wholeSum(s), whole(n))); wholeSum(fewer).Cmp(want) != 0 {
				t.Errorf("Minus(%v, %d): %v", s, n, fewer)
			}
			if Minus(more, n) != s || Plus(fewer, n) != s {
				t.Errorf("%d is not taken back from %v", n, s)
			}
		}
	}
}

// P2.2: the ends, where sums go round.
func TestRound(t *testing.T) {
	least, greatest := api.Sum{Hi: math.MinInt64}, api.Sum{Hi: math.MaxInt64, Lo: math.MaxUint64}
	if Plus(greatest, 1) != least || Minus(least, 1) != greatest {
		t.Error("sums do not go round")
	}
	if s := Minus(greatest, math.MinInt64); s != (api.Sum{Hi: math.MinInt64, Lo: 1<<63 - 1}) {
		t.Errorf("the greatest less -2^63: %v", s)
	}
	if s := Plus(least, math.MinInt64); s != (api.Sum{Hi: math.MaxInt64, Lo: 1 << 63}) {
		t.Errorf("the least and -2^63: %v", s)
	}
	if s := Plus(api.Sum{}, -1); s != (api.Sum{Hi: -1, Lo: math.MaxUint64}) {
		t.Errorf("0 and -1: %v", s)
	}
}

// P2.2
func TestCompare(t *testing.T) {
	for _, a := range someSums() {
		for _, b := range someSums() {
			if got := Compare(a, b); got != wholeSum(a).Cmp(wholeSum(b)) {
				t.Errorf("Compare(%v, %v): %d", a, b, got)
			}
		}
	}
}

// P2.2
func TestSmall(t *testing.T) {
	for _, n := range someInts() {
		if got, err := Small(Plus(api.Sum{}, n)); got != n || err != nil {
			t.Errorf("Small of %d: %d, %v", n, got, err)
		}
	}
	for _, s := range someSums() {
		n, err := Small(s)
		tells(t, fmt.Sprint("Small of ", s), n, err, wholeSum(s))
	}
}

// P2.2
func TestRatio(t *testing.T) {
	for _, s := range someSums() {
		for _, n := range someInts() {
			got, err := Ratio(s, n)
			if n == 0 {
				fails(t, err, api.ErrZero)
				if got != 0 {
					t.Errorf("Ratio(%v, 0): %d", s, got)
				}
				continue
			}
			tells(t, fmt.Sprint("Ratio of ", s, " by ", n), got, err, down(wholeSum(s), whole(n)))
		}
	}
}

// P2.2: quotients at int64's ends, from both sides.
func TestRatioEdges(t *testing.T) {
	for _, n := range []int64{1, -1, 2, -2, 3, -3, 1<<62 + 1, math.MaxInt64, math.MinInt64 + 1, math.MinInt64} {
		for _, q := range []int64{math.MinInt64, math.MaxInt64, 0, -1} {
			for d := int64(-3); d <= 3; d++ {
				s := Plus(product(q, n), d)
				got, err := Ratio(s, n)
				tells(t, fmt.Sprint("Ratio of ", s, " by ", n), got, err, down(wholeSum(s), whole(n)))
			}
		}
	}
}

// P2.6, E10: the way to a sum leaves nothing in it.
func TestAnyOrder(t *testing.T) {
	r := draw()
	for round := range 200 {
		numbers := slices.Clone(someInts()[:1+r.Intn(40)])
		want := new(big.Int)
		var s api.Sum
		for _, n := range numbers {
			s = Plus(s, n)
			want.Add(want, whole(n))
		}
		if wholeSum(s).Cmp(want) != 0 {
			t.Fatalf("round %d: %v, not %d", round, s, want)
		}
		r.Shuffle(len(numbers), func(i, j int) { numbers[i], numbers[j] = numbers[j], numbers[i] })
		var other api.Sum
		for _, n := range numbers {
			other = Plus(other, n)
		}
		if other != s {
			t.Fatalf("round %d: in another order %v, not %v", round, other, s)
		}
		r.Shuffle(len(numbers), func(i, j int) { numbers[i], numbers[j] = numbers[j], numbers[i] })
		for _, n := range numbers {
			other = Minus(other, n)
		}
		if other != (api.Sum{}) {
			t.Fatalf("round %d: %v is left", round, other)
		}
	}
}

// P2.6: many numbers of one sign, far beyond int64.
func TestManyPlus(t *testing.T) {
	for _, n := range []int64{math.MaxInt64, math.MinInt64, 1, -1} {
		var s api.Sum
		for range 100000 {
			s = Plus(s, n)
		}
		if want := new(big.Int).Mul(whole(100000), whole(n)); wholeSum(s).Cmp(want) != 0 {
			t.Errorf("100000 times %d: %v", n, s)
		}
	}
}

// P2.9
func TestRatioBetween(t *testing.T) {
	r := draw()
	all := someInts()
	for range 2000 {
		var s api.Sum
		var numbers []int64
		for range 1 + r.Intn(20) {
			numbers = append(numbers, all[r.Intn(len(all))])
			s = Plus(s, numbers[len(numbers)-1])
		}
		mean, err := Ratio(s, int64(len(numbers)))
		if err != nil || mean < slices.Min(numbers) || mean > slices.Max(numbers) {
			t.Fatalf("the mean of %v: %d, %v", numbers, mean, err)
		}
	}
}
