package lex

import (
	"math/big"
	"math/rand"
	"regexp"
	"strings"
	"testing"

	"weir/api"
	"weir/expect"
)

// fails holds an error against a number and a place.
func fails(t *testing.T, what string, err error, e api.Errno, pos int) {
	t.Helper()
	if wrong := expect.Wrong(err, e, pos, expect.None); wrong != "" {
		t.Errorf("%.200q: %v: %s", what, err, wrong)
	}
}

// draw is a source with a fixed seed, so that each run draws the same.
func draw() *rand.Rand { return rand.New(rand.NewSource(1970)) }

// texts goes through all texts of at most so many of these pieces.
func texts(pieces []string, most int, see func(string)) {
	var add func(s string, left int)
	add = func(s string, left int) {
		see(s)
		for _, p := range pieces {
			if left > 0 {
				add(s+p, left-1)
			}
		}
	}
	add("", most)
}

// someText draws a text of less than so many pieces, of all that a token may be made of and some more.
func someText(chance *rand.Rand, most int) string {
	pieces := []string{
		"a", "Z", "_", "time", "SELECT", "0", "7", "42", "9223372036854775807", "1h", "30m", "5ms", "1w2d", "20000w",
		"\"", "'", "\\", "\\\"", "\\'", "\\\\", "\"a b\"", "'x'", ",", "(", ")", "+", "-", "*", "/", "%", "=", "!", "<", ">", "!=",
		" ", "\t", "\n", "\r", "#", ".", ";", "\x00", "\x0b", "\x7f", "\xff", "é", "ſ", "😀",
	}
	var s strings.Builder
	for range chance.Intn(most) {
		s.WriteString(pieces[chance.Intn(len(pieces))])
	}
	return s.String()
}

// The tokens, told anew by patterns.
var (
	blanks = regexp.MustCompile(`^[ \t\n\r]*`)
	word   = regexp.MustCompile(`^[A-Za-z_][A-Za-z0-9_]*`)
	count  = regexp.MustCompile(`^[0-9][A-Za-z0-9_]*`)
	digits = regexp.MustCompile(`^[0-9]+$`)
	parts  = regexp.MustCompile(`^(?:(\d+)w)?(?:(\d+)d)?(?:(\d+)h)?(?:(\d+)m)?(?:(\d+)s)?(?:(\d+)ms)?(?:(\d+)us)?(?:(\d+)ns)?$`)
	sign   = regexp.MustCompile(`^(?:!=|<=|>=|[-,()+*/%=<>])`)
	within = map[byte]*regexp.Regexp{'"': regexp.MustCompile(`^"(?:[^"\\]|\\["\\])*`), '\'': regexp.MustCompile(`^'(?:[^'\\]|\\['\\])*`)}
)

// answer is what Next answers.
type answer struct {
	token api.Token
	end   int
	e     api.Errno
	pos   int
}

func wrong(e api.Errno, pos int) answer { return answer{e: e, pos: pos} }

// model is what Next must answer of a place in the text.
func model(s string, at int) answer {
	at += len(blanks.FindString(s[at:]))
	rest := s[at:]
	of := func(kind api.TokenKind, text string, n int64, size int) answer {
		return answer{api.Token{Kind: kind, Text: text, N: n, Pos: at}, at + size, 0, expect.None}
	}
	if rest == "" {
		return of(api.End, "", 0, 0)
	}
	if w := word.FindString(rest); w != "" {
		return of(api.Word, w, 0, len(w))
	}
	if w := sign.FindString(rest); w != "" {
		return of(api.Sign, w, 0, len(w))
	}
	if w := count.FindString(rest); w != "" {
		kind, n := says(w)
		if n == nil || !n.IsInt64() {
			return wrong(api.ErrNumber, at)
		}
		return of(kind, w, n.Int64(), len(w))
	}
	if within[rest[0]] == nil {
		return wrong(api.ErrChar, at)
	}
	inside := within[rest[0]].FindString(rest)
	mark, kind := rest[:1], api.Name
	if mark == "'" {
		kind = api.Text
	}
	switch {
	case inside == rest:
		return wrong(api.ErrQuote, at)
	case rest[len(inside)] == '\\':
		return wrong(api.ErrQuote, at+len(inside))
	}
	said := strings.NewReplacer(`\\`, `\`, `\`+mark, mark).Replace(inside[1:])
	return of(kind, said, 0, len(inside)+1)
}

// says is what a row that begins with a digit is, and says: nil, if that is nothing.
func says(w string) (api.TokenKind, *big.Int) {
	n := new(big.Int)
	if digits.MatchString(w) {
		n.SetString(w, 10)
		return api.Number, n
	}
	found := parts.FindStringSubmatch(w)
	if found == nil {
		return api.Span, nil
	}
	for i, unit := range []int64{604800e9, 86400e9, 3600e9, 60e9, 1e9, 1e6, 1e3, 1} {
		part, some := new(big.Int).SetString(found[i+1], 10)
		if some {
			n.Add(n, part.Mul(part, big.NewInt(unit)))
		}
	}
	return api.Span, n
}

// next holds Next of a place against the model, and answers what it told.
func next(t *testing.T, s string, at int) answer {
	t.Helper()
	want := model(s, at)
	token, end, err := Next(s, at)
	if token != want.token || end != want.end {
		t.Fatalf("%q at %d: %v, %d, not %v, %d", s, at, token, end, want.token, want.end)
	}
	fails(t, s, err, want.e, want.pos)
	return want
}
