package span

import (
	"math"
	"math/big"
	"math/rand"
	"regexp"
	"strconv"
	"strings"
	"testing"
	"time"

	"weir/api"
	"weir/expect"
)

// The chapter's second example.
func TestTimeExamples(t *testing.T) {
	for n, want := range map[int64]string{
		0: "1970-01-01T00:00:00Z", -1: "1969-12-31T23:59:59.999999999Z", 1: "1970-01-01T00:00:00.000000001Z",
		1709204400500000000: "2024-02-29T11:00:00.5Z", 86399e9: "1970-01-01T23:59:59Z", 120e6: "1970-01-01T00:00:00.12Z",
		math.MinInt64: "1677-09-21T00:12:43.145224192Z", math.MaxInt64: "2262-04-11T23:47:16.854775807Z",
	} {
		if s := Text(n); s != want {
			t.Errorf("%d: %s", n, s)
		}
		if m, err := Time(want); m != n || err != nil {
			t.Errorf("%s: %d, %v", want, m, err)
		}
	}
	for s, want := range map[string]int64{
		"2024-02-29T12:00:00.5+01:00":         1709204400500000000,
		"2024-02-29T12:00:00.500000000+01:00": 1709204400500000000,
		"2024-02-29T09:30:00.5-01:30":         1709204400500000000,
		"1970-01-01T00:00:00-00:00":           0,
		"1970-01-01T00:00:00+00:00":           0,
		"1970-01-01T23:59:59+23:59":           59e9,
		"1969-12-31T00:01:00-23:59":           0,
		"1970-01-01T00:00:00.000000000Z":      0,
		"2262-04-12T23:46:16.854775807+23:59": math.MaxInt64,
		"1677-09-20T00:13:43.145224192-23:59": math.MinInt64,
	} {
		if n, err := Time(s); n != want || err != nil {
			t.Errorf("%s: %d, %v", s, n, err)
		}
	}
}

// P4.2: the place of the first part that is not as it must be.
func TestNoTimes(t *testing.T) {
	for s, pos := range map[string]int{
		"2023-02-29T00:00:00Z": 8, "2024-02-29": 10, "2024-02-29T12:00:00.Z": 19, "2024-02-29T12:00:00Zx": 20,
		"": 0, "2": 0, "202": 0, "2024": 4, "2024-": 5, "2024-0": 5, "2024-02": 7, "2024-02-": 8, "2024-02-2": 8,
		"2024-02-29T": 11, "2024-02-29T1": 11, "2024-02-29T12": 13, "2024-02-29T12:": 14, "2024-02-29T12:0": 14, "2024-02-29T12:00": 16,
		"2024-02-29T12:00:": 17, "2024-02-29T12:00:0": 17, "2024-02-29T12:00:00": 19, "2024-02-29T12:00:00.": 19, "2024-02-29T12:00:00.5": 21,
		"2024-02-29T12:00:00+": 20, "2024-02-29T12:00:00+0": 20, "2024-02-29T12:00:00+01": 22, "2024-02-29T12:00:00+01:": 23, "2024-02-29T12:00:00+01:0": 23,
		"2024-02-29T12:00:00+01:00Z": 25, "2024-02-29T12:00:00+01:000": 25, "2024-02-29T12:00:00ZZ": 20, "2024-02-29T12:00:00.123456789Z ": 30,
		"2024-02-29T12:00:00.1234567890Z": 19, "2024-02-29T12:00:00.0000000000": 19, "2024-02-29T12:00:00,5Z": 19, "2024-02-29T12:00:00z": 19,
		"2024-02-29T12:00:00.5x": 21, "2024-02-29T12:00:00 Z": 19, "2024-02-29T12:00:00+24:00": 20, "2024-02-29T12:00:00+23:60": 23,
		"2024-02-29T12:00:00-1:00": 20, "2024-02-29T12:00:00+0100": 22, "2024-02-29T12:00:00++1:00": 20,
		"2024-00-29T12:00:00Z": 5, "2024-13-29T12:00:00Z": 5, "2024-1-29T12:00:00Z": 5, "2024-02-00T12:00:00Z": 8, "2024-02-30T12:00:00Z": 8,
		"2024-04-31T12:00:00Z": 8, "2024-01-32T12:00:00Z": 8, "2100-02-29T12:00:00Z": 8, "2024-02-29T24:00:00Z": 11, "2024-02-29T12:60:00Z": 14,
		"2024-02-29T12:00:60Z": 17, "2024-02-29t12:00:00Z": 10, "2024-02-29 12:00:00Z": 10, "2024/02-29T12:00:00Z": 4, "2024-02/29T12:00:00Z": 7,
		"2024-02-29T12.00:00Z": 13, "2024-02-29T12:00.00Z": 16, "12024-02-29T12:00:00Z": 4, "-024-02-29T12:00:00Z": 0, "+024-02-29T12:00:00Z": 0,
		" 2024-02-29T12:00:00Z": 0, "2024--2-29T12:00:00Z": 5, "2024-+2-29T12:00:00Z": 5, "2024-02- 9T12:00:00Z": 8, "20_4-02-29T12:00:00Z": 0,
		"2023-02-29x": 8, "0001-02-29T00:00:00Z": 8, "9999-12-31T00:00:00Zx": 20, "2024-02-29T12:00:00.+01:00": 19, "٢٠٢٤-02-29T12:00:00Z": 0,
		"2024-02-29T1\x00:00:00Z": 11,
	} {
		n, err := Time(s)
		fails(t, s, err, api.ErrTime, pos)
		if n != 0 {
			t.Errorf("%q: %d beside an error", s, n)
		}
	}
}

// P4.2
func TestTimesOutside(t *testing.T) {
	for _, s := range []string{
		"0001-01-01T00:00:00Z", "0000-01-01T00:00:00+23:59", "9999-12-31T23:59:59.999999999-23:59", "2262-04-11T23:47:16.854775808Z", "2262-04-11T23:47:17Z",
		"1677-09-21T00:12:43.145224191Z", "1677-09-21T00:12:43Z", "1677-09-21T00:12:42.999999999Z", "2262-04-11T23:47:16.854775807-00:01", "1677-09-21T00:12:43.145224192+00:01",
	} {
		n, err := Time(s)
		fails(t, s, err, api.ErrOver, expect.None)
		if n != 0 {
			t.Errorf("%q: %d beside an error", s, n)
		}
	}
}

// P4.2, P4.5
func TestText(t *testing.T) {
	for _, n := range someInts() {
		s := Text(n)
		if want := time.Unix(0, n).UTC().Format("2006-01-02T15:04:05.999999999Z07:00"); s != want {
			t.Errorf("%d: %s, not %s", n, s, want)
		}
		if m, err := Time(s); m != n || err != nil {
			t.Errorf("%d is told as %s, which is %d, %v", n, s, m, err)
		}
	}
}

// parted are the parts of a time's text, each with what it must be.
var parted = []*regexp.Regexp{
	regexp.MustCompile(`^\d{4}`), regexp.MustCompile(`^-`), regexp.MustCompile(`^(0[1-9]|1[0-2])`), regexp.MustCompile(`^-`), regexp.MustCompile(`^(0[1-9]|[12]\d|3[01])`),
	regexp.MustCompile(`^T`), regexp.MustCompile(`^([01]\d|2[0-3])`), regexp.MustCompile(`^:`), regexp.MustCompile(`^[0-5]\d`), regexp.MustCompile(`^:`), regexp.MustCompile(`^[0-5]\d`),
}

var (
	point = regexp.MustCompile(`^\.\d*`)
	zoned = []*regexp.Regexp{regexp.MustCompile(`^[-+]`), regexp.MustCompile(`^([01]\d|2[0-3])`), regexp.MustCompile(`^:`), regexp.MustCompile(`^[0-5]\d`)}
)

// wrongAt is where a text is no time's, or where it ends, if it is one.
func wrongAt(s string) int {
	at := 0
	for i, p := range parted {
		size := len(p.FindString(s[at:]))
		if size == 0 || i == 4 && !inMonth(s[:10]) {
			return at
		}
		at += size
	}
	if digits := point.FindString(s[at:]); len(digits) == 1 || len(digits) > 10 {
		return at
	} else {
		at += len(digits)
	}
	if strings.HasPrefix(s[at:], "Z") {
		return at + 1
	}
	for _, p := range zoned {
		size := len(p.FindString(s[at:]))
		if size == 0 {
			return at
		}
		at += size
	}
	return at
}

// inMonth tells whether there is a day, by the library.
func inMonth(s string) bool {
	_, err := time.Parse("2006-01-02", s)
	return err == nil
}

// someTime is a time's text, or nearly so.
func someTime(chance *rand.Rand) string {
	s := pick(chance, "1970", "2024", "1900", "2000", "1677", "2262", "0000", "9999") + "-" + pick(chance, "01", "02", "04", "09", "12") + "-" +
		pick(chance, "01", "21", "28", "29", "30", "31") + "T" + pick(chance, "00", "23") + ":" + pick(chance, "12", "47") + ":" + pick(chance, "16", "43", "59") +
		pick(chance, "", ".1", ".145224191", ".145224192", ".854775807", ".854775808", ".000000001") + pick(chance, "Z", "Z", "+00:00", "-23:59", "+01:30")
	switch b := []byte(s); chance.Intn(5) {
	case 0:
		b[chance.Intn(len(b))] = pick(chance, []byte("0123456789-:TZ.+ \xff")...)
		return string(b)
	case 1:
		return s[:chance.Intn(len(s)+1)]
	case 2:
		at := chance.Intn(len(s) + 1)
		return s[:at] + pick(chance, "0", "9", "Z", ".", "-", ":") + s[at:]
	}
	return s
}

// reckoned is what a time's text says, by the library but for the parts of the second.
func reckoned(t *testing.T, s string) *big.Int {
	t.Helper()
	when, err := time.Parse("2006-01-02T15:04:05.999999999Z07:00", s)
	if err != nil {
		t.Fatalf("%s: %v", s, err)
	}
	n := big.NewInt(when.Unix())
	n.Mul(n, big.NewInt(1e9))
	return n.Add(n, big.NewInt(int64(when.Nanosecond())))
}

// P4.2, P4.5: texts drawn.
func TestTimes(t *testing.T) {
	chance := draw()
	came := map[string]int{}
	for range 40000 {
		s := someTime(chance)
		n, err := Time(s)
		end := wrongAt(s)
		whole := end == len(s) && (strings.HasSuffix(s, "Z") || len(s) >= 25 && s[len(s)-3] == ':' && strings.ContainsAny(s[len(s)-6:len(s)-5], "+-"))
		if !whole {
			came["at "+strconv.Itoa(end)]++
			fails(t, s, err, api.ErrTime, end)
			continue
		}
		want := reckoned(t, s)
		if !want.IsInt64() {
			came["over"]++
			fails(t, s, err, api.ErrOver, expect.None)
			continue
		}
		came["taken"]++
		if n != want.Int64() || err != nil {
			t.Errorf("%s: %d, %v, not %v", s, n, err, want)
		}
		if m, bad := Time(Text(n)); m != n || bad != nil {
			t.Errorf("%s is told as %s: %d, %v", s, Text(n), m, bad)
		}
	}
	if came["over"] < 100 || came["taken"] < 100 || len(came) < 15 {
		t.Error(came)
	}
}

// Long texts are read in a time that grows as they do.
func TestLongTimes(t *testing.T) {
	digits := strings.Repeat("7", 1<<20)
	_, err := Time(digits)
	fails(t, "digits", err, api.ErrTime, 4)
	_, err = Time("2024-02-29T12:00:00." + digits)
	fails(t, "digits behind a point", err, api.ErrTime, 19)
}
