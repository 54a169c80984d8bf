package fault

import (
	"strconv"
	"strings"

	"weir/api"
)

// The words of an error's line.
const (
	inWord      = "number "
	atWord      = "at "
	labelEnd    = ": "
	unknownWord = "unknown"
)

// Print is an error as a line.
func Print(err error) string {
	if err == nil {
		return Name(0)
	}
	line := ""
	if i, ok := Index(err); ok {
		line += label(inWord, i)
	}
	if p, ok := Place(err); ok {
		line += label(atWord, p)
	}
	if e := Code(err); e != 0 {
		return line + Name(e)
	}
	return line + unknownWord
}

// Parse reads such a line.
func Parse(s string) (error, error) {
	told, ok := read(s)
	// read is lenient: only what prints as it was read is a line.
	if !ok || Print(told) != s {
		return nil, New(api.ErrForm)
	}
	return told, nil
}

// read is the error that a line tells; it lets numbers pass that no line has, such as 07 and +7.
func read(s string) (error, bool) {
	index, isIn, rest := unlabel(s, inWord)
	pos, isAt, rest := unlabel(rest, atWord)
	e, bad := Find(rest)
	if bad != nil {
		return nil, false
	}
	told := New(e)
	if isAt {
		told = At(pos, e)
	}
	if isIn {
		told = In(index, told)
	}
	return told, true
}

func label(word string, n int) string {
	return word + strconv.Itoa(n) + labelEnd
}

// unlabel takes a label off the beginning of a text; where there is none the text stays whole.
func unlabel(s, word string) (n int, there bool, rest string) {
	digits, rest, ok := strings.Cut(s, labelEnd)
	digits, begins := strings.CutPrefix(digits, word)
	n, bad := strconv.Atoi(digits)
	if !ok || !begins || bad != nil {
		return 0, false, s
	}
	return n, true, rest
}
