package code

import (
	"math"
	"strconv"
	"strings"

	"weir/api"
)

// lineWriter writes a program as lines.
type lineWriter struct{ strings.Builder }

func (w *lineWriter) begin(word string) { w.WriteString(word) }

func (w *lineWriter) end() { w.WriteString("\n") }

func (w *lineWriter) text(s string) string {
	w.WriteString(blank + quote(s))
	return s
}

func (w *lineWriter) number(n int64) int64 {
	w.WriteString(blank + strconv.FormatInt(n, 10))
	return n
}

func (w *lineWriter) function(f api.Func) api.Func { return api.Func(w.number(int64(f))) }

func (w *lineWriter) code(c api.Code) api.Code {
	w.begin(Name(c))
	return c
}

func (w *lineWriter) many(_ string, n int) func(int) bool { return below(n) }

// quote is a text as it stands in a listing.
func quote(s string) string {
	const digits = "0123456789abcdef"
	var b strings.Builder
	b.WriteByte('"')
	for i := range len(s) {
		if c := s[i]; c < ' ' || c > '~' || c == '"' || c == '\\' {
			b.WriteString(`\x`)
			b.WriteByte(digits[c>>4])
			b.WriteByte(digits[c&15])
		} else {
			b.WriteByte(c)
		}
	}
	b.WriteByte('"')
	return b.String()
}

// lineReader reads a program from lines. Behind a fault it reads nothing more.
type lineReader struct {
	all   string
	at    int  // how many bytes were read
	line  int  // where the line begins that is read
	wrong bool // with that line no listing goes on
}

func (r *lineReader) rest() string { return r.all[r.at:] }

// must passes what has to stand here.
func (r *lineReader) must(s string) {
	r.wrong = r.wrong || !strings.HasPrefix(r.rest(), s)
	if !r.wrong {
		r.at += len(s)
	}
}

// word is what stands here, up to a blank or the line's end.
func (r *lineReader) word() string {
	rest := r.rest()
	if end := strings.IndexAny(rest, " \n"); end >= 0 {
		return rest[:end]
	}
	return rest
}

func (r *lineReader) begin(word string) { r.must(word) }

func (r *lineReader) end() {
	r.must("\n")
	if !r.wrong {
		r.line = r.at
	}
}

// text takes just what is written of the text that it reads.
func (r *lineReader) text(string) string {
	r.must(blank + `"`)
	inside, _, _ := strings.Cut(r.rest(), `"`)
	s := unquote(inside)
	r.must(quote(s)[1:])
	return s
}

// unquote is the text that stands between two quotes; of what is no such text it is any.
func unquote(s string) string {
	var b strings.Builder
	for {
		ahead, behind, more := strings.Cut(s, `\x`)
		b.WriteString(ahead)
		if !more || len(behind) < 2 {
			return b.String()
		}
		c, _ := strconv.ParseUint(behind[:2], 16, 8)
		b.WriteByte(byte(c))
		s = behind[2:]
	}
}

// number takes just what is written of the number that it reads.
func (r *lineReader) number(int64) int64 {
	r.must(blank)
	n, err := strconv.ParseInt(r.word(), 10, 64)
	r.wrong = r.wrong || err != nil
	r.must(strconv.FormatInt(n, 10))
	return n
}

func (r *lineReader) function(api.Func) api.Func {
	n := r.number(0)
	r.wrong = r.wrong || n < 0 || n > math.MaxUint8
	return api.Func(n)
}

// code is asked only where an instruction's name stands.
func (r *lineReader) code(api.Code) api.Code {
	c := find(r.word())
	r.must(Name(c))
	return c
}

func (r *lineReader) many(word string, _ int) func(int) bool {
	return func(int) bool {
		if word == itsName {
			return !r.wrong && find(r.word()) != 0
		}
		return !r.wrong && strings.HasPrefix(r.rest(), word)
	}
}
