package lex

import (
	"math"
	"slices"
	"strings"
	"testing"

	"weir/api"
	"weir/expect"
)

// The chapter's first two examples.
func TestExamples(t *testing.T) {
	all := func(s string, want ...api.Token) {
		t.Helper()
		want = append(want, api.Token{Kind: api.End, Pos: len(s)})
		if l, err := All(s); !slices.Equal(l, want) || err != nil {
			t.Errorf("%q: %v, %v", s, l, err)
		}
	}
	all("SELECT mean(v)", api.Token{Kind: api.Word, Text: "SELECT"}, api.Token{Kind: api.Word, Text: "mean", Pos: 7}, api.Token{Kind: api.Sign, Text: "(", Pos: 11},
		api.Token{Kind: api.Word, Text: "v", Pos: 12}, api.Token{Kind: api.Sign, Text: ")", Pos: 13})
	all("1h30m", api.Token{Kind: api.Span, Text: "1h30m", N: 5400000000000})
	all("30", api.Token{Kind: api.Number, Text: "30", N: 30})
	all("a1", api.Token{Kind: api.Word, Text: "a1"})
	all(`"a\"b"`, api.Token{Kind: api.Name, Text: `a"b`})
	all(`'it\'s'`, api.Token{Kind: api.Text, Text: "it's"})
	all("<=", api.Token{Kind: api.Sign, Text: "<="})
	all("= =", api.Token{Kind: api.Sign, Text: "="}, api.Token{Kind: api.Sign, Text: "=", Pos: 2})
	for _, c := range []struct {
		s   string
		e   api.Errno
		pos int
	}{
		{"3x", api.ErrNumber, 0}, {"1_0", api.ErrNumber, 0}, {`"a`, api.ErrQuote, 0}, {`"a\n"`, api.ErrQuote, 2}, {"a ! b", api.ErrChar, 2}, {"a#b", api.ErrChar, 1},
	} {
		l, err := All(c.s)
		if len(l) != 0 {
			t.Errorf("%q: %v beside an error", c.s, l)
		}
		fails(t, c.s, err, c.e, c.pos)
	}
}

// P12.1: a place that is none.
func TestPlaces(t *testing.T) {
	for _, s := range []string{"", "a", "  ", "\"", "#"} {
		for _, at := range []int{math.MinInt, -1, len(s) + 1, math.MaxInt} {
			token, end, err := Next(s, at)
			if token != (api.Token{}) || end != 0 {
				t.Errorf("%q at %d: %v, %d beside an error", s, at, token, end)
			}
			fails(t, s, err, api.ErrRange, expect.None)
		}
	}
}

// P12.1: each byte by itself and beside others.
func TestEachByte(t *testing.T) {
	for b := range 256 {
		c := string([]byte{byte(b)})
		for _, s := range []string{c, c + "=", c + "1", c + "a", " " + c, c + c, `"` + c + `"`, "'" + c + "'", `"\` + c + `"`, `'\` + c + "'", "5" + c, "a" + c, "<" + c, "!" + c} {
			for at := range len(s) + 1 {
				next(t, s, at)
			}
		}
	}
}

// P12.1, P12.5: all short texts, at each place.
func TestShortTexts(t *testing.T) {
	texts([]string{"a", "1", "h", "\"", "'", "\\", "=", "!", "<", ">", ",", " ", "#", "\xc3"}, 4, func(s string) {
		for at := range len(s) + 1 {
			next(t, s, at)
		}
	})
	texts([]string{"\"", "'", "\\", "a"}, 7, func(s string) { next(t, s, 0) })
	texts([]string{"0", "1", "m", "s", "n", "h", "_"}, 6, func(s string) { next(t, s, 0) })
}

// P12.1: the ends of int64, and more digits than a number needs.
func TestNumbers(t *testing.T) {
	for _, c := range []struct {
		s    string
		kind api.TokenKind
		n    int64
	}{
		{"0", api.Number, 0}, {"00", api.Number, 0}, {"007", api.Number, 7}, {"9223372036854775807", api.Number, math.MaxInt64},
		{strings.Repeat("0", 100) + "9223372036854775807", api.Number, math.MaxInt64}, {"0s", api.Span, 0}, {"9223372036854775807ns", api.Span, math.MaxInt64},
		{"1w1d1h1m1s1ms1us1ns", api.Span, 694861001001001}, {"15250w1d23h47m16s854ms775us807ns", api.Span, math.MaxInt64}, {strings.Repeat("0", 100) + "1h", api.Span, 3600e9},
	} {
		if got := next(t, c.s, 0).token; got != (api.Token{Kind: c.kind, Text: c.s, N: c.n}) {
			t.Errorf("%q: %v", c.s, got)
		}
	}
	for _, s := range []string{
		"9223372036854775808", "9223372036854775808ns", "10000000000000000000", "18446744073709551616", strings.Repeat("9", 1000), "20000w", "15250w1d23h47m16s854ms775us808ns",
		"1m1h", "1h1h", "1hm", "1H", "1e5", "0x10", "0b1", "1_000", "5msx", "1s2",
	} {
		_, _, err := Next("  "+s, 1)
		fails(t, s, err, api.ErrNumber, 2)
		next(t, "  "+s, 0)
	}
}

// P12.1: the first fault of a quoted text is told, wherever it stands.
func TestQuotes(t *testing.T) {
	for _, c := range []struct {
		s   string
		pos int
	}{
		{`"`, 0}, {`'`, 0}, {`"a'`, 0}, {`'a"`, 0}, {`"\"`, 0}, {`'\\\'`, 0}, {`"\`, 1}, {`"a\`, 2}, {`"\a`, 1}, {`"\'"`, 1}, {`'\"'`, 1}, {`"\\\`, 3}, {`"\\\x\y"`, 3}, {`"a\x`, 2},
		{"'\\\n'", 1}, {"\"\\\x00\"", 1}, {`"a" `, expect.None}, {`''`, expect.None}, {`"\\"`, expect.None}, {`'\\'x`, expect.None}, {`"'"`, expect.None}, {"\"a\nb\x00\xff\"", expect.None},
	} {
		e := api.ErrQuote
		if c.pos == expect.None {
			e = 0
		}
		_, _, err := Next(c.s, 0)
		fails(t, c.s, err, e, c.pos)
		next(t, c.s, 0)
	}
}

// again is how P12.6 writes tokens down.
func again(l []api.Token) string {
	var words []string
	for _, x := range l {
		switch x.Kind {
		case api.Name:
			words = append(words, `"`+strings.NewReplacer(`\`, `\\`, `"`, `\"`).Replace(x.Text)+`"`)
		case api.Text:
			words = append(words, Text(x.Text))
		default:
			words = append(words, x.Text)
		}
	}
	return strings.Join(words, " ")
}

// P12.2, P12.5, P12.6: tokens one behind the other, the first error, and the same written anew.
func TestAll(t *testing.T) {
	chance := draw()
	read, refused := 0, 0
	see := func(s string) {
		var want []api.Token
		one := answer{}
		for one.e == 0 && (len(want) == 0 || want[len(want)-1].Kind != api.End) {
			one = next(t, s, one.end)
			want = append(want, one.token)
		}
		l, err := All(s)
		if one.e != 0 {
			want = nil
			refused++
		} else {
			read++
		}
		if !slices.Equal(l, want) {
			t.Fatalf("%q: %v, not %v", s, l, want)
		}
		fails(t, s, err, one.e, one.pos)
		if one.e == 0 {
			places(t, s, l)
			alike(t, s, l)
		}
	}
	for range 30000 {
		see(someText(chance, 12))
	}
	texts([]string{"a", "1", "s", "\"", "'", "\\", "=", "<", " "}, 5, see)
	if read < 10000 || refused < 10000 {
		t.Errorf("%d texts were read, %d refused", read, refused)
	}
}

// places holds P12.5 of a text's tokens.
func places(t *testing.T, s string, l []api.Token) {
	t.Helper()
	behind := 0
	for i, x := range l {
		_, end, _ := Next(s, x.Pos)
		if i > 0 && x.Pos <= l[i-1].Pos || strings.Trim(s[behind:x.Pos], " \t\r\n") != "" {
			t.Fatalf("%q: %v", s, l)
		}
		behind = end
	}
	if last := l[len(l)-1]; behind != len(s) || last != (api.Token{Pos: len(s)}) {
		t.Fatalf("%q ends at %d with %v", s, behind, last)
	}
}

// alike holds P12.6 of a text's tokens.
func alike(t *testing.T, s string, l []api.Token) {
	t.Helper()
	if len(again(l)) > api.MaxQuery {
		return
	}
	more, err := All(again(l))
	if err != nil || !slices.EqualFunc(l, more, func(a, b api.Token) bool { return a.Kind == b.Kind && a.Text == b.Text && a.N == b.N }) {
		t.Fatalf("%q, written anew %q: %v, %v", s, again(l), more, err)
	}
}

// P12.2: how long a text may be.
func TestLongTexts(t *testing.T) {
	for _, piece := range []string{"a", " ", "1", "(", "#", "\"", "é"} {
		s := strings.Repeat(piece, api.MaxQuery)[:api.MaxQuery]
		l, err := All(s)
		want := model(s, 0)
		fails(t, s, err, want.e, want.pos)
		if err == nil && l[len(l)-1].Pos != api.MaxQuery {
			t.Errorf("%.10q: %v", s, l[len(l)-1])
		}
		l, err = All(s + piece)
		if len(l) != 0 {
			t.Errorf("%.10q: %d tokens beside an error", s, len(l))
		}
		fails(t, s, err, api.ErrLong, expect.None)
	}
	long := strings.Repeat("a", 10*api.MaxQuery)
	if token, end, err := Next(long, 0); token != (api.Token{Kind: api.Word, Text: long}) || end != len(long) || err != nil {
		t.Errorf("Next of a long word: %d, %v", end, err)
	}
}
