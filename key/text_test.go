package key

import (
	"regexp"
	"strings"
	"testing"

	"weir/api"
	"weir/expect"
)

// letters are those that keys are made of, with some that mean nothing.
var letters = []string{"a", ",", " ", "=", `\`, "é", "\xff", "\x00"}

// P5.4, P5.7: all short texts.
func TestEscape(t *testing.T) {
	escaped := strings.NewReplacer(",", `\,`, " ", `\ `, "=", `\=`, `\`, `\\`)
	texts(letters, 5, func(s string) {
		got := Escape(s)
		if got != escaped.Replace(s) {
			t.Fatalf("%q: %q", s, got)
		}
		for _, more := range []string{"", ",", " ", "=", ",a", " \\", "==\\x", ", b=c"} {
			said, n, err := Unescape(got + more)
			if said != s || n != len(got) || err != nil {
				t.Fatalf("%q: %q, %d, %v", got+more, said, n, err)
			}
		}
	})
}

// row is what is read of a text, up to where that ends.
var row = regexp.MustCompile(`^(?:[^, =\\]|\\[, =\\])*`)

// P5.4: all short texts.
func TestUnescape(t *testing.T) {
	plain := strings.NewReplacer(`\,`, ",", `\ `, " ", `\=`, "=", `\\`, `\`)
	texts(letters, 5, func(s string) {
		read := row.FindString(s)
		said, n, err := Unescape(s)
		if strings.HasPrefix(s[len(read):], `\`) {
			fails(t, s, err, api.ErrKey, len(read))
			if said != "" || n != 0 {
				t.Fatalf("%q: %q, %d beside an error", s, said, n)
			}
			return
		}
		if said != plain.Replace(read) || n != len(read) || err != nil {
			t.Fatalf("%q: %q, %d, %v", s, said, n, err)
		}
	})
}

// P5.4: an error behind where the reading ends is none.
func TestUnescapeEnds(t *testing.T) {
	for s, want := range map[string]string{"a,\\": "a", "a \\x": "a", "=\\": "", ",": "", " ": "", "": "", `\==`: "=", `a\\,b`: `a\`, `a\,b,c`: "a,b", "#a\nb c": "#a\nb"} {
		if said, _, err := Unescape(s); said != want || err != nil {
			t.Errorf("%q: %q, %v", s, said, err)
		}
	}
	for s, pos := range map[string]int{`\`: 0, `\x`: 0, `a\`: 1, `a\x,`: 1, `\\\`: 2, `\,\`: 2, "\\\n": 0, "\\é": 0, `ab\,\cd\e`: 4} {
		_, _, err := Unescape(s)
		fails(t, s, err, api.ErrKey, pos)
	}
}

// Long texts are gone through once: otherwise this would not end.
func TestLongTexts(t *testing.T) {
	const size = 1 << 20
	for _, s := range []string{"a", ",", `\`, "a=", "é "} {
		long := strings.Repeat(s, size)
		escaped := Escape(long)
		if said, n, err := Unescape(escaped); said != long || n != len(escaped) || err != nil {
			t.Errorf("%q: %d, %v", s, n, err)
		}
		_, err := Parse(escaped)
		fails(t, s, err, api.ErrKey, len(escaped))
		_, err = Parse(escaped + " v")
		fails(t, s, err, api.ErrName, expect.None)
	}
	_, err := Parse("m" + strings.Repeat(",a=b", size) + " v")
	fails(t, "many tags", err, api.ErrTags, expect.None)
}
