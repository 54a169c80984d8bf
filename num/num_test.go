package num

import (
	"fmt"
	"math"
	"math/big"
	"testing"

	"weir/api"
)

// P2.1
func TestAddSubMul(t *testing.T) {
	for _, a := range someInts() {
		for _, b := range someInts() {
			what := fmt.Sprint(a, " and ", b)
			n, err := Add(a, b)
			tells(t, "Add of "+what, n, err, new(big.Int).Add(whole(a), whole(b)))
			n, err = Sub(a, b)
			tells(t, "Sub of "+what, n, err, new(big.Int).Sub(whole(a), whole(b)))
			n, err = Mul(a, b)
			tells(t, "Mul of "+what, n, err, new(big.Int).Mul(whole(a), whole(b)))
		}
		n, err := Neg(a)
		tells(t, fmt.Sprint("Neg of ", a), n, err, new(big.Int).Neg(whole(a)))
	}
}

// P2.1, P2.5
func TestDivMod(t *testing.T) {
	for _, a := range someInts() {
		for _, b := range someInts() {
			if b == 0 {
				continue
			}
			what := fmt.Sprint(a, " by ", b)
			want := down(whole(a), whole(b))
			q, err := Div(a, b)
			tells(t, "Div of "+what, q, err, want)
			left := new(big.Int).Mul(whole(b), want)
			m, bad := Mod(a, b)
			tells(t, "Mod of "+what, m, bad, left.Sub(whole(a), left))
			if m != 0 && m < 0 != (b < 0) {
				t.Errorf("Mod of %s has not the sign of %d: %d", what, b, m)
			}
			if err == nil && b*q+m != a {
				t.Errorf("%s: %d and %d are not the whole", what, q, m)
			}
		}
	}
}

// P2.1
func TestZero(t *testing.T) {
	for _, a := range someInts() {
		n, err := Div(a, 0)
		fails(t, err, api.ErrZero)
		m, bad := Mod(a, 0)
		fails(t, bad, api.ErrZero)
		if n != 0 || m != 0 {
			t.Errorf("%d by 0: %d, %d", a, n, m)
		}
	}
}

// The chapter's first example.
func TestNumExamples(t *testing.T) {
	for what, c := range map[string]struct {
		f    func(a, b int64) (int64, error)
		a, b int64
		want int64
		over bool
	}{
		"2^63-1 and 1":  {Add, math.MaxInt64, 1, 0, true},
		"-2^63 and -1":  {Add, math.MinInt64, -1, 0, true},
		"-2^63 less 1":  {Sub, math.MinInt64, 1, 0, true},
		"-1 less -2^63": {Sub, -1, math.MinInt64, math.MaxInt64, false},
		"0 less -2^63":  {Sub, 0, math.MinInt64, 0, true},
		"-2^32 by 2^31": {Mul, -1 << 32, 1 << 31, math.MinInt64, false},
		"2^32 by 2^31":  {Mul, 1 << 32, 1 << 31, 0, true},
		"-2^63 by -1":   {Mul, math.MinInt64, -1, 0, true},
		"-1 by -2^63":   {Mul, -1, math.MinInt64, 0, true},
		"-7 / 2":        {Div, -7, 2, -4, false},
		"7 / -2":        {Div, 7, -2, -4, false},
		"-7 / -2":       {Div, -7, -2, 3, false},
		"-2^63 / -1":    {Div, math.MinInt64, -1, 0, true},
		"-1 / -2^63":    {Div, -1, math.MinInt64, 0, false},
		"1 / -2^63":     {Div, 1, math.MinInt64, -1, false},
		"-7 % 2":        {Mod, -7, 2, 1, false},
		"7 % -2":        {Mod, 7, -2, -1, false},
		"-2^63 % -1":    {Mod, math.MinInt64, -1, 0, false},
		"1 % -2^63":     {Mod, 1, math.MinInt64, math.MinInt64 + 1, false},
	} {
		n, err := c.f(c.a, c.b)
		if c.over {
			fails(t, err, api.ErrOver)
		} else if err != nil {
			t.Errorf("%s: %v", what, err)
		}
		if n != c.want {
			t.Errorf("%s: %d", what, n)
		}
	}
	n, err := Neg(math.MinInt64)
	fails(t, err, api.ErrOver)
	if m, bad := Neg(math.MaxInt64); n != 0 || m != -math.MaxInt64 || bad != nil {
		t.Errorf("Neg: %d, %d, %v", n, m, bad)
	}
}
