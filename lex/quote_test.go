package lex

import (
	"strings"
	"testing"

	"weir/api"
)

// The chapter's third example.
func TestQuoteExamples(t *testing.T) {
	for s, want := range map[string]string{"v": "v", "time": `"time"`, "a b": `"a b"`, "": `""`} {
		if got := Quote(s); got != want {
			t.Errorf("%q: %s", s, got)
		}
	}
	if got := Text("it's"); got != `'it\'s'` {
		t.Errorf("%s", got)
	}
}

// theWords are those of the language.
var theWords = strings.Fields("select as into from where group by time fill and or not in true false")

// cases goes through a word in small and capital letters, in each way.
func cases(word string, see func(string)) {
	for pick := range 1 << len(word) {
		b := []byte(word)
		for i := range b {
			if pick>>i&1 == 1 {
				b[i] -= 'a' - 'A'
			}
		}
		see(string(b))
	}
}

// P12.3
func TestKey(t *testing.T) {
	for _, w := range theWords {
		cases(w, func(s string) {
			if !Key(s) || Quote(s) != `"`+s+`"` {
				t.Errorf("%s: %t, %s", s, Key(s), Quote(s))
			}
		})
		for _, s := range []string{w + "s", "x" + w, w[1:], w[:len(w)-1], w + " ", " " + w, w + "_", w + "1", w + "\x00", w + w, `"` + w + `"`} {
			isWord := false
			for _, other := range theWords {
				isWord = isWord || s == other
			}
			if Key(s) != isWord {
				t.Errorf("%q: %t", s, Key(s))
			}
		}
	}
	for _, s := range []string{
		"", " ", "count", "sum", "mean", "min", "max", "first", "last", "spread", "having", "order", "limit", "ſelect", "aſ", "falſe", "İn", "fİll", "tİme", "tıme", "ın", "in\xff", "\xff", "s3lect", "@s", "A[",
		strings.Repeat("a", 1<<20),
	} {
		if Key(s) {
			t.Errorf("%.100q is a word of the language", s)
		}
	}
}

// P12.3: all words of few letters.
func TestShortWords(t *testing.T) {
	letters := strings.Split("abcdefghijklmnopqrstuvwxyzABCINORSTY_09", "")
	texts(letters, 3, func(s string) {
		isWord := false
		for _, w := range theWords {
			isWord = isWord || strings.ToLower(s) == w
		}
		if Key(s) != isWord {
			t.Errorf("%q: %t", s, Key(s))
		}
		want := s
		if isWord || s == "" || strings.Contains("09", s[:1]) {
			want = `"` + s + `"`
		}
		if got := Quote(s); got != want {
			t.Errorf("%q: %s", s, got)
		}
	})
}

// P12.3, P12.4: any text comes back as it was.
func TestQuoteAndText(t *testing.T) {
	kinds := map[api.TokenKind]int{}
	see := func(s string) {
		q := Quote(s)
		x, end, err := Next(q, 0)
		kinds[x.Kind]++
		if x.Text != s || x.Pos != 0 || end != len(q) || err != nil || x.Kind != api.Word && x.Kind != api.Name {
			t.Fatalf("Quote of %q: %s: %v, %d, %v", s, q, x, end, err)
		}
		if x.Kind == api.Word && q != s || x.Kind == api.Name && q != `"`+strings.NewReplacer(`\`, `\\`, `"`, `\"`).Replace(s)+`"` {
			t.Fatalf("Quote of %q: %s", s, q)
		}
		if bare := word.FindString(s) == s && s != "" && !Key(s); bare != (x.Kind == api.Word) {
			t.Fatalf("Quote of %q: %s", s, q)
		}
		q = Text(s)
		if x, end, err := Next(q, 0); x != (api.Token{Kind: api.Text, Text: s}) || end != len(q) || err != nil {
			t.Fatalf("Text of %q: %s: %v, %d, %v", s, q, x, end, err)
		}
		if q != "'"+strings.NewReplacer(`\`, `\\`, "'", `\'`).Replace(s)+"'" {
			t.Fatalf("Text of %q: %s", s, q)
		}
	}
	chance := draw()
	for range 20000 {
		see(someText(chance, 6))
	}
	for b := range 256 {
		c := string([]byte{byte(b)})
		for _, s := range []string{c, "a" + c, c + "a", c + c} {
			see(s)
		}
	}
	texts([]string{"a", "_", "1", "\\", "\"", "'", " ", "é"}, 5, see)
	if kinds[api.Word] < 500 || kinds[api.Name] < 500 {
		t.Errorf("%v", kinds)
	}
}
