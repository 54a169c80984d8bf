package span

import (
	"math"
	"math/big"
	"math/rand"
	"regexp"
	"strconv"
	"strings"
	"testing"

	"weir/api"
	"weir/expect"
)

// The chapter's first example.
func TestSpanExamples(t *testing.T) {
	for s, want := range map[string]int64{
		"1h30m": 5400000000000, "90m": 5400000000000, "-5s": -5000000000, "007s": 7000000000, "5ms": 5000000,
		"1w": 604800e9, "1d": 86400e9, "1h": 3600e9, "1m": 60e9, "1s": 1e9, "1ms": 1e6, "1us": 1e3, "1ns": 1,
		"1w1d1h1m1s1ms1us1ns": 694861001001001, "-1w1d1h1m1s1ms1us1ns": -694861001001001, "1m1ms": 60001e6,
		"0s": 0, "-0s": 0, "-0w00d000ns": 0, "9223372036854775807ns": math.MaxInt64, "-9223372036854775807ns": -math.MaxInt64,
		"15250w1d23h47m16s854ms775us807ns": math.MaxInt64, "0000000000000000000000000000001ns": 1, "0w9223372036854775807ns": math.MaxInt64,
	} {
		if n, err := Parse(s); n != want || err != nil {
			t.Errorf("%s: %d, %v", s, n, err)
		}
	}
	for n, want := range map[int64]string{
		5400000000000: "90m", 86400000000000: "1d", 604800000000000: "1w", 0: "0s", 1: "1ns", -1: "-1ns", 1500: "1500ns",
		-2000: "-2us", 25 * 3600e9: "25h", -14 * 86400e9: "-2w", 1e6: "1ms", 1e9: "1s", 61e9: "61s", math.MaxInt64: "9223372036854775807ns",
		-math.MaxInt64: "-9223372036854775807ns", math.MinInt64: "-9223372036854775807ns",
	} {
		if s := Print(n); s != want {
			t.Errorf("%d: %s", n, s)
		}
	}
	for _, c := range []struct {
		s  string
		n  int64
		to int
	}{{"1m1h", 60000000000, 2}, {"5ms2", 5000000, 3}, {"1hm", 3600000000000, 2}, {"1h1h", 3600e9, 2}, {"1s1m1ns", 1e9, 2}, {"3us4", 3000, 3}, {"1h-1m", 3600e9, 2}, {"1m1u", 60e9, 2}} {
		if n, to, err := Scan(c.s); n != c.n || to != c.to || err != nil {
			t.Errorf("Scan of %s: %d, %d, %v", c.s, n, to, err)
		}
	}
}

// P4.1
func TestNoSpans(t *testing.T) {
	for _, s := range []string{
		"1m1h", "1h1h", "", "-", "--5s", "+5s", " 5s", "5s ", "5", "s", "5 s", "5S", "5us5us", "5u", "5n", "1.5s", "-s", "5s-", "5µs", "٣s", "5s\x00", "\xff",
		"99999999999999999999w1w", "20000w1", "20000wx", "-20000w ",
	} {
		n, err := Parse(s)
		fails(t, s, err, api.ErrSpan, expect.None)
		if n != 0 {
			t.Errorf("%q: %d beside an error", s, n)
		}
	}
	for _, s := range []string{"", "-", "-5s", "+5s", " 5s", "5", "s", "5 s", "x5s", "٣s", "99999999999999999999", "5u5s"} {
		n, to, err := Scan(s)
		fails(t, s, err, api.ErrSpan, expect.None)
		if n != 0 || to != 0 {
			t.Errorf("%q: %d, %d beside an error", s, n, to)
		}
	}
}

// P4.1
func TestSpansOutside(t *testing.T) {
	for _, s := range []string{
		"20000w", "9223372036854775808ns", "9223372036854775810ns", "9223372036s854775808ns", "15250w1d23h47m16s854ms775us808ns", "15251w",
		"92233720368547758070ns", strings.Repeat("9", 1000) + "ns", strings.Repeat("9", 1000) + "w0s", "18446744073709551616ns", "18446744073709551617w",
	} {
		for _, sign := range []string{"", "-"} {
			n, err := Parse(sign + s)
			fails(t, sign+s, err, api.ErrOver, expect.None)
			if n != 0 {
				t.Errorf("%q: %d beside an error", sign+s, n)
			}
		}
		for _, more := range []string{"", "1w", " ", "x", "7"} {
			n, to, err := Scan(s + more)
			fails(t, s+more, err, api.ErrOver, expect.None)
			if n != 0 || to != 0 {
				t.Errorf("%q: %d, %d beside an error", s+more, n, to)
			}
		}
	}
}

var (
	spans    = regexp.MustCompile(`^(\d+w)?(\d+d)?(\d+h)?(\d+m)?(\d+s)?(\d+ms)?(\d+us)?(\d+ns)?$`)
	oneSpan  = regexp.MustCompile(`(\d+)([a-z]+)`)
	unitSize = map[string]int64{"w": 604800e9, "d": 86400e9, "h": 3600e9, "m": 60e9, "s": 1e9, "ms": 1e6, "us": 1e3, "ns": 1}
)

// isSpan tells whether a text is a span's, as the chapter's words say.
func isSpan(s string) bool { return s != "" && spans.MatchString(s) }

// said is what a span's text says.
func said(s string) *big.Int {
	all := new(big.Int)
	for _, m := range oneSpan.FindAllStringSubmatch(s, -1) {
		n, _ := new(big.Int).SetString(m[1], 10)
		all.Add(all, n.Mul(n, big.NewInt(unitSize[m[2]])))
	}
	return all
}

// someSpan is a text that is a span's, or nearly so.
func someSpan(chance *rand.Rand) string {
	var s strings.Builder
	for range chance.Intn(5) {
		s.WriteString(pick(chance, "0", "1", "7", "00", "59", "106751", "9223372036", "854775807", "854775808", "9223372036854775807", "99999999999999999999"))
		s.WriteString(pick(chance, "w", "d", "h", "m", "s", "ms", "us", "ns"))
	}
	if chance.Intn(3) == 0 {
		s.WriteString(pick(chance, "5", "m", "s", "-", " ", "u", "1h", "é"))
	}
	return s.String()
}

// P4.1: Scan and Parse of texts drawn, against each beginning tried.
func TestScanAndParse(t *testing.T) {
	chance := draw()
	came := map[api.Errno]int{}
	for range 30000 {
		s := someSpan(chance)
		to := len(s)
		for to > 0 && !isSpan(s[:to]) {
			to--
		}
		want := said(s[:to])
		e := api.Errno(0)
		if to == 0 {
			e = api.ErrSpan
		} else if !want.IsInt64() {
			e = api.ErrOver
		}
		came[e]++
		n, size, err := Scan(s)
		fails(t, s, err, e, expect.None)
		if e == 0 && (n != want.Int64() || size != to) {
			t.Errorf("Scan of %q: %d, %d, not %v, %d", s, n, size, want, to)
		}
		if to < len(s) {
			e = api.ErrSpan
		}
		n, err = Parse(s)
		fails(t, s, err, e, expect.None)
		m, bad := Parse("-" + s)
		fails(t, "-"+s, bad, e, expect.None)
		if e == 0 && (n != want.Int64() || m != -n) {
			t.Errorf("Parse of %q: %d, %d, not %v", s, n, m, want)
		}
	}
	if came[0] < 100 || came[api.ErrSpan] < 100 || came[api.ErrOver] < 100 {
		t.Error(came)
	}
}

// P4.1, P4.4
func TestPrint(t *testing.T) {
	for _, n := range someInts() {
		s := Print(n)
		if n == math.MinInt64 {
			n = -math.MaxInt64
		}
		if m, err := Parse(s); m != n || err != nil {
			t.Errorf("%d prints as %s, which is %d, %v", n, s, m, err)
		}
		name, size := greatest(n)
		if want := strconv.FormatInt(n/size, 10) + name; s != want {
			t.Errorf("%d prints as %s, not %s", n, s, want)
		}
	}
}

// greatest is the greatest unit of which a number is a multiple; of 0 a second.
func greatest(n int64) (name string, size int64) {
	if n == 0 {
		return "s", 1e9
	}
	for u, of := range unitSize {
		if n%of == 0 && of > size {
			name, size = u, of
		}
	}
	return name, size
}

// P4.7
func TestScanTakesJustTheText(t *testing.T) {
	for _, s := range []string{"1h30m", "90m", "5ms", "1w1ns", "007s"} {
		want, _ := Parse(s)
		for _, more := range []string{"", " ", ",", ")", "-", "-1s", "\n", "\x00", ".5s", " 5ns", "\xff", "_", "+1s"} {
			if n, to, err := Scan(s + more); n != want || to != len(s) || err != nil {
				t.Errorf("%q: %d, %d, %v", s+more, n, to, err)
			}
		}
	}
}

// Long texts are read in a time that grows as they do.
func TestLongSpans(t *testing.T) {
	digits := strings.Repeat("7", 1<<20)
	_, err := Parse(digits)
	fails(t, "digits", err, api.ErrSpan, expect.None)
	_, err = Parse(digits + "s")
	fails(t, "digits and s", err, api.ErrOver, expect.None)
	n, to, err := Scan(strings.Repeat("0", 1<<20) + "1s" + digits)
	if n != 1e9 || to != 1<<20+2 || err != nil {
		t.Errorf("%d, %d, %v", n, to, err)
	}
}
