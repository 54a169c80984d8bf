package shell

import (
	"slices"
	"strconv"
	"strings"

	"weir/engine"
	"weir/lex"
	"weir/span"
)

// mostLetters is how many letters the name of an engine has at most.
const mostLetters = 8

// word is what a word of a line says, and whether it stood in quotes.
type word struct {
	text   string
	quoted bool
}

// cut are the words of a line, if it can be cut into some.
func cut(line string) ([]word, bool) {
	var words []word
	for rest := strings.TrimLeft(line, blank); rest != ""; rest = strings.TrimLeft(rest, blank) {
		if !strings.HasPrefix(rest, quote) {
			w := word{}
			w.text, rest, _ = strings.Cut(rest, blank)
			words = append(words, w)
			continue
		}
		t, end, err := lex.Next(rest, 0)
		if err != nil {
			return nil, false
		}
		rest = rest[end:]
		if rest != "" && !strings.HasPrefix(rest, blank) {
			return nil, false
		}
		words = append(words, word{t.Text, true})
	}
	return words, true
}

// passedOver tells whether a line with these words tells nothing.
func passedOver(words []word) bool {
	return len(words) == 0 || !words[0].quoted && strings.HasPrefix(words[0].text, remark)
}

// call is what the words of a line say behind the first one, one list for each form of words.
type call struct {
	known   map[string]*engine.Engine
	asked   []string         // the names of engines that must be there
	engines []*engine.Engine // these
	fresh   string           // the name that an engine is given
	numbers []int64          // numbers and times
	texts   []string
}

// find looks for the engines whose names were asked for, and tells whether all are there.
func (c *call) find() bool {
	for _, name := range c.asked {
		c.engines = append(c.engines, c.known[name])
	}
	return !slices.Contains(c.engines, nil)
}

// there takes the name of an engine that must be there.
func (c *call) there(w word) bool {
	c.asked = append(c.asked, w.text)
	return w.names()
}

// given takes the name that an engine is given.
func (c *call) given(w word) bool {
	c.fresh = w.text
	return w.names()
}

// number takes a number.
func (c *call) number(w word) bool {
	n, err := strconv.ParseInt(w.text, 10, 64)
	c.numbers = append(c.numbers, n)
	// What is read is more than may be: a number is what prints as it was read.
	return err == nil && !w.quoted && strconv.FormatInt(n, 10) == w.text
}

// moment takes a time: a number, or a text that says one.
func (c *call) moment(w word) bool {
	t, err := span.Time(w.text)
	if err != nil || w.quoted {
		return c.number(w)
	}
	c.numbers = append(c.numbers, t)
	return true
}

// text takes any word.
func (c *call) text(w word) bool {
	c.texts = append(c.texts, w.text)
	return true
}

// names tells whether a word may be the name of an engine.
func (w word) names() bool {
	return !w.quoted && w.text != "" && len(w.text) <= mostLetters && strings.Trim(w.text, "abcdefghijklmnopqrstuvwxyz") == ""
}
