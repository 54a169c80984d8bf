package lex

import (
	"strconv"
	"strings"

	"weir/api"
	"weir/fault"
	"weir/span"
)

// read is the token that begins just at a place, and where it ends.
func read(s string, at int) (api.Token, int, error) {
	if at == len(s) {
		return api.Token{Kind: api.End}, at, nil
	}
	end := at + 1
	switch c := s[at]; {
	case letter(c):
		end = row(s, at)
		return api.Token{Kind: api.Word, Text: s[at:end]}, end, nil
	case digit(c):
		return number(s, at)
	case c == '"':
		return quoted(s, at, api.Name)
	case c == '\'':
		return quoted(s, at, api.Text)
	case strings.HasPrefix(s[at:], "!="), c == '<', c == '>':
		if strings.HasPrefix(s[end:], "=") {
			end++
		}
		fallthrough
	case strings.IndexByte(",()+-*/%=", c) >= 0:
		return api.Token{Kind: api.Sign, Text: s[at:end]}, end, nil
	}
	return api.Token{}, 0, fault.At(at, api.ErrChar)
}

// number reads a number or a span.
func number(s string, at int) (api.Token, int, error) {
	end := row(s, at)
	t := api.Token{Kind: api.Number, Text: s[at:end]}
	var err error
	if t.N, err = strconv.ParseInt(t.Text, 10, 64); err != nil {
		t.Kind = api.Span
		t.N, err = span.Parse(t.Text)
	}
	if err != nil {
		return api.Token{}, 0, fault.At(at, api.ErrNumber)
	}
	return t, end, nil
}

// quoted reads what stands between the quote at a place and the next one like it.
func quoted(s string, at int, kind api.TokenKind) (api.Token, int, error) {
	var said strings.Builder
	for i := at + 1; i < len(s); i++ {
		switch s[i] {
		case s[at]:
			return api.Token{Kind: kind, Text: said.String()}, i + 1, nil
		case '\\':
			i++
			if i == len(s) || s[i] != s[at] && s[i] != '\\' {
				return api.Token{}, 0, fault.At(i-1, api.ErrQuote)
			}
			fallthrough
		default:
			said.WriteByte(s[i])
		}
	}
	return api.Token{}, 0, fault.At(at, api.ErrQuote)
}

// row is where the row of letters and digits ends that begins at a place.
func row(s string, at int) int {
	for at < len(s) && (letter(s[at]) || digit(s[at])) {
		at++
	}
	return at
}

func blank(c byte) bool { return c == ' ' || c == '\t' || c == '\n' || c == '\r' }

func letter(c byte) bool { return 'a' <= c && c <= 'z' || 'A' <= c && c <= 'Z' || c == '_' }

func digit(c byte) bool { return '0' <= c && c <= '9' }
