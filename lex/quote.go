package lex

import "strings"

// words are those of the language, made once: a query that is read or printed asks for many.
var words = language()

func language() map[string]struct{} {
	return map[string]struct{}{
		"select": {}, "as": {}, "into": {}, "from": {}, "where": {}, "group": {}, "by": {}, "time": {},
		"fill": {}, "and": {}, "or": {}, "not": {}, "in": {}, "true": {}, "false": {},
	}
}

// Key tells whether a word is one of the language.
func Key(s string) bool {
	_, is := words[strings.Map(small, s)]
	return is
}

// Quote is a name as a query's text has it: bare, where it may be.
func Quote(s string) string {
	if bare(s) && !Key(s) {
		return s
	}
	return enclose(s, '"')
}

// Text is a text as a query's text has it.
func Text(s string) string { return enclose(s, '\'') }

// small is a capital letter's small one. The library's own knows more letters,
// of which some are made small into one of a to z: they are none of the language.
func small(r rune) rune {
	if 'A' <= r && r <= 'Z' {
		return r - 'A' + 'a'
	}
	return r
}

// bare tells whether s may stand without quotes, if it is no word of the language.
func bare(s string) bool { return s != "" && letter(s[0]) && row(s, 0) == len(s) }

// enclose is s between two marks.
func enclose(s string, mark byte) string {
	var out strings.Builder
	out.WriteByte(mark)
	for i := range len(s) {
		if s[i] == mark || s[i] == '\\' {
			out.WriteByte('\\')
		}
		out.WriteByte(s[i])
	}
	out.WriteByte(mark)
	return out.String()
}
