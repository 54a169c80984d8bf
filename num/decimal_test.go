package num

import (
	"math"
	"math/big"
	"strings"
	"testing"

	"weir/api"
)

// P2.3, P2.7
func TestPrintParse(t *testing.T) {
	for _, s := range someSums() {
		text := Print(s)
		if text != wholeSum(s).String() {
			t.Errorf("Print(%v): %s", s, text)
		}
		if got, err := Parse(text); got != s || err != nil {
			t.Errorf("Parse(%s): %v, %v", text, got, err)
		}
	}
}

// P2.3: as many digits as there can be, and each power of 10 with its neighbours.
func TestDigits(t *testing.T) {
	ten := whole(1)
	for range 41 {
		for d := int64(-1); d <= 1; d++ {
			n := new(big.Int).Add(ten, whole(d))
			readWhole(t, n.String())
			readWhole(t, n.Neg(n).String())
		}
		ten.Mul(ten, whole(10))
	}
}

// readWhole holds Parse of a text against math/big: it is read just if it is in one form and has room.
func readWhole(t *testing.T, s string) {
	t.Helper()
	n, ok := new(big.Int).SetString(s, 10)
	if ok = ok && n.String() == s && round(n).Cmp(n) == 0; !ok {
		readNone(t, s)
		return
	}
	got, err := Parse(s)
	if err != nil || wholeSum(got).Cmp(n) != 0 {
		t.Errorf("Parse(%q): %v, %v", s, got, err)
	}
	if Print(got) != s {
		t.Errorf("Print of Parse(%q): %s", s, Print(got))
	}
}

func readNone(t *testing.T, s string) {
	t.Helper()
	got, err := Parse(s)
	fails(t, err, api.ErrForm)
	if got != (api.Sum{}) {
		t.Errorf("Parse(%.50q): %v", s, got)
	}
}

// P2.3: the ends, and what is just outside.
func TestEnds(t *testing.T) {
	for s, want := range map[string]api.Sum{
		"0":                     {},
		"-1":                    {Hi: -1, Lo: math.MaxUint64},
		"18446744073709551615":  {Lo: math.MaxUint64},
		"18446744073709551616":  {Hi: 1},
		"-18446744073709551616": {Hi: -1},
		"170141183460469231731687303715884105727":  {Hi: math.MaxInt64, Lo: math.MaxUint64},
		"-170141183460469231731687303715884105728": {Hi: math.MinInt64},
		"-170141183460469231731687303715884105727": {Hi: math.MinInt64, Lo: 1},
	} {
		if got, err := Parse(s); got != want || err != nil {
			t.Errorf("Parse(%s): %v, %v", s, got, err)
		}
		if got := Print(want); got != s {
			t.Errorf("Print(%v): %s", want, got)
		}
	}
	for _, s := range []string{
		"170141183460469231731687303715884105728", "-170141183460469231731687303715884105729",
		"340282366920938463463374607431768211455", "340282366920938463463374607431768211456",
		"340282366920938463463374607431768211457", "-340282366920938463463374607431768211457",
		"999999999999999999999999999999999999999", "-999999999999999999999999999999999999999",
		"1000000000000000000000000000000000000000", "3402823669209384634633746074317682114560",
	} {
		readNone(t, s)
	}
}

// P2.3: what is no decimal.
func TestParseForm(t *testing.T) {
	for _, s := range []string{
		"", "-", "+", "--", "-0", "+0", "+1", "--1", "-+1", "00", "007", "-007", "01", "-01",
		" ", " 1", "1 ", "1\n", "\n1", "1\x00", "\x001", "1-", "1-1", "- 1", "1 000", "1_000", "1,000",
		"0x1", "1e3", "1.0", ".", "a", "1a", "a1", "٣", "1/", "1:", "/", ":", "0-", "-a", "\xff", "1\xff",
		strings.Repeat("0", 39), strings.Repeat("0", 40) + "1", "0" + strings.Repeat("9", 38),
		strings.Repeat("1", 40), strings.Repeat("9", 1<<20), "-" + strings.Repeat("0", 1<<20), strings.Repeat("-", 1000),
	} {
		readNone(t, s)
	}
}

// P2.7: texts drawn near those that are read.
func TestParseDrawn(t *testing.T) {
	r := draw()
	const signs = "0123456789+-/:_ a\x00"
	for _, s := range someSums() {
		text := Print(s)
		for range 40 {
			i := r.Intn(len(text))
			c := string(signs[r.Intn(len(signs))])
			readWhole(t, text[:i]+c+text[i:])
			readWhole(t, text[:i]+c+text[i+1:])
			readWhole(t, text[:i]+text[i+1:])
		}
	}
}
