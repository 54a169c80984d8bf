package span

import (
	"strconv"
	"strings"

	"weir/api"
	"weir/fault"
	"weir/num"
)

// mostDigits is how many digits of parts of a second may stand behind the point.
const mostDigits = 9

// missing is told of a piece that is not as it must be.
const missing = -1

// clock is what a time's text says.
type clock struct {
	year, month, day     int
	hour, minute, second int
	nanos                int
	ahead                int // 1 if the clock is ahead of UTC, -1 if it is behind
	byHours, byMinutes   int
}

// piece is a part of a time's text. take keeps what it says, and answers how
// many bytes of what is left it has, or missing.
type piece struct {
	take func(rest string) int
}

// Time reads a time.
func Time(s string) (int64, error) {
	var c clock
	at, ok := through(s, 0, c.local())
	if ok && c.ahead != 0 {
		at, ok = through(s, at, c.zone())
	}
	if !ok || at < len(s) {
		return 0, fault.At(at, api.ErrTime)
	}
	return c.time()
}

// Text is a time as a text.
func Text(t int64) string {
	// A day is neither 0 nor -1 nanoseconds, so there is no error.
	days, _ := num.Div(t, day)
	rest, _ := num.Mod(t, day)
	year, month, date := Date(int(days))
	return padded(year, 4) + "-" + padded(month, 2) + "-" + padded(date, 2) + "T" +
		padded(int(rest/hour), 2) + ":" + padded(int(rest%hour/minute), 2) + ":" + padded(int(rest%minute/second), 2) +
		fraction(int(rest%second)) + "Z"
}

// through goes through pieces from a place on: to the place behind the last
// one, or to that of the first one that is missing.
func through(s string, at int, pieces []piece) (int, bool) {
	for _, p := range pieces {
		size := p.take(s[at:])
		if size == missing {
			return at, false
		}
		at += size
	}
	return at, true
}

// local are the pieces that each time's text has.
func (c *clock) local() []piece {
	return []piece{
		{number(4, 0, lastYear, &c.year)},
		{letter("-")},
		{number(2, 1, len(months), &c.month)},
		{letter("-")},
		{c.takeDay},
		{letter("T")},
		{number(2, 0, 23, &c.hour)},
		{letter(":")},
		{number(2, 0, 59, &c.minute)},
		{letter(":")},
		{number(2, 0, 59, &c.second)},
		{c.takeFraction},
		{c.takeZone},
	}
}

// zone are the pieces behind a + or a -.
func (c *clock) zone() []piece {
	return []piece{
		{number(2, 0, 23, &c.byHours)},
		{letter(":")},
		{number(2, 0, 59, &c.byMinutes)},
	}
}

// number takes one of so many digits, from least to most.
func number(size, least, most int, into *int) func(string) int {
	return func(rest string) int {
		if len(rest) < size || count(rest[:size]) < size {
			return missing
		}
		n, _ := strconv.Atoi(rest[:size])
		if n < least || n > most {
			return missing
		}
		*into = n
		return size
	}
}

// letter takes one that says nothing by itself.
func letter(s string) func(string) int {
	return func(rest string) int {
		if !strings.HasPrefix(rest, s) {
			return missing
		}
		return len(s)
	}
}

// takeDay takes a day that the month has, so the month must have been taken.
func (c *clock) takeDay(rest string) int {
	return number(2, 1, length(c.year, c.month), &c.day)(rest)
}

// takeFraction takes the point and its digits, if there is a point.
func (c *clock) takeFraction(rest string) int {
	text, found := strings.CutPrefix(rest, ".")
	if !found {
		return 0
	}
	size := count(text)
	if size < 1 || size > mostDigits {
		return missing
	}
	c.nanos, _ = strconv.Atoi(text[:size] + strings.Repeat("0", mostDigits-size))
	return 1 + size
}

// takeZone takes what begins the zone.
func (c *clock) takeZone(rest string) int {
	if rest == "" {
		return missing
	}
	switch rest[0] {
	case 'Z':
		c.ahead = 0
	case '+':
		c.ahead = 1
	case '-':
		c.ahead = -1
	default:
		return missing
	}
	return 1
}

// time is the nanoseconds since 1970 of a clock whose day there is.
func (c *clock) time() (int64, error) {
	days, err := Day(c.year, c.month, c.day)
	if err != nil {
		return 0, err
	}
	minutes := 60*(c.hour-c.ahead*c.byHours) + c.minute - c.ahead*c.byMinutes
	seconds := int64(days)*(day/second) + int64(60*minutes+c.second)
	nanos := int64(c.nanos)
	if seconds < 0 {
		// So both lie on one side of 0, and the whole is outside int64 if
		// one of them is.
		seconds++
		nanos -= second
	}
	whole, err := num.Mul(seconds, second)
	if err != nil {
		return 0, err
	}
	return num.Add(whole, nanos)
}

// padded is a number with zeros ahead.
func padded(n, size int) string {
	s := strconv.Itoa(n)
	return strings.Repeat("0", max(size-len(s), 0)) + s
}

// fraction is parts of a second behind a point, or nothing if there are none.
func fraction(nanos int) string {
	if nanos == 0 {
		return ""
	}
	return "." + strings.TrimRight(padded(nanos, mostDigits), "0")
}
