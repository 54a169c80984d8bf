package parse

import (
	"math"
	"slices"
	"strings"

	"weir/api"
	"weir/expect"
	"weir/lex"
	"weir/span"
)

// model is what must be told of a text: the grammar goes from token to token, and of each one that may stand there is told
// what the chapter's list finds wrong with it. (How deep trees are it does not tell.)
func model(n *network, rule, s string) (api.Errno, int) {
	tokens, err := lex.All(s)
	if err != nil {
		panic(err)
	}
	places := []string{string(n.start[rule])}
	var j judge
	for _, t := range tokens {
		var m move
		if m, places = n.goOn(places, t); len(places) == 0 {
			return api.ErrSyntax, t.Pos
		}
		if t.Kind == api.End {
			return 0, expect.None
		}
		if e, pos := j.see(m, t); e != 0 {
			return e, pos
		}
	}
	panic("no end")
}

// judge knows what it has to of the tokens that it has seen.
type judge struct {
	before                      api.Token
	rule                        string // in which the one before stands
	brackets                    string // those that are open: ( around sums and conditions, f the others
	items, groups, texts, spans int
	every                       int64
	minus                       int
	signed                      bool
	first                       operand
	sign                        string
}

type operand struct {
	kind string // tag, text, clock, time
	pos  int
	text string
}

func isName(s string) bool { return s != "" && len(s) <= 64 && plain(s) }

func plain(s string) bool {
	return s == strings.ToValidUTF8(s, "") && strings.IndexFunc(s, func(r rune) bool { return r < 32 || r == 127 }) < 0
}

func (j *judge) see(m move, t api.Token) (api.Errno, int) {
	rule := m.path[len(m.path)-1]
	e, pos := j.item(m, t)
	for _, look := range []func(string, string, api.Token) (api.Errno, int){j.name, j.text, j.bracket, j.window, j.condition} {
		if e == 0 {
			e, pos = look(rule, m.word, t)
		}
	}
	j.before, j.rule = t, rule
	return e, pos
}

func (j *judge) item(m move, t api.Token) (api.Errno, int) {
	if j.rule == "query" && slices.Contains(m.path, "item") {
		if j.items++; j.items > 16 {
			return api.ErrLong, t.Pos
		}
	}
	return 0, 0
}

func (j *judge) name(rule, word string, t api.Token) (api.Errno, int) {
	if word != "name" {
		return 0, 0
	}
	after := strings.ToLower(j.before.Text)
	measure := rule == "query" && j.before.Kind == api.Word && (after == "into" || after == "from")
	if !isName(t.Text) || t.Text == "time" && !measure {
		return api.ErrName, t.Pos
	}
	if rule == "query" && !measure {
		if j.groups++; j.groups > 8 {
			return api.ErrLong, t.Pos
		}
	}
	return 0, 0
}

func (j *judge) text(rule, word string, t api.Token) (api.Errno, int) {
	if word != "text" {
		return 0, 0
	}
	if len(t.Text) > 256 || !plain(t.Text) {
		return api.ErrText, t.Pos
	}
	if rule == "simple" {
		if j.texts++; j.texts > 64 {
			return api.ErrLong, t.Pos
		}
	}
	return 0, 0
}

func (j *judge) bracket(rule, word string, t api.Token) (api.Errno, int) {
	switch word {
	case "'('":
		kind := "f"
		if (rule == "single" || rule == "simple") && j.rule != "function" && !fits("'IN'", j.before) {
			kind = "("
		}
		if j.brackets += kind; strings.Count(j.brackets, "(") > 64 {
			return api.ErrDeep, t.Pos
		}
	case "')'":
		j.brackets = j.brackets[:len(j.brackets)-1]
	}
	return 0, 0
}

func (j *judge) window(rule, word string, t api.Token) (api.Errno, int) {
	if rule != "query" || word != "span" {
		return 0, 0
	}
	j.spans++
	if j.spans == 1 && (t.N < 1 || t.N > 1<<58) || j.spans == 2 && t.N >= j.every {
		return api.ErrEvery, t.Pos
	}
	j.every = t.N
	return 0, 0
}

func (j *judge) condition(rule, word string, t api.Token) (api.Errno, int) {
	switch {
	case rule == "sign":
		j.sign = t.Text
		if j.first.kind == "tag" && t.Text != "=" && t.Text != "!=" {
			return api.ErrSyntax, t.Pos
		}
	case word == "'IN'":
		if j.first.kind == "clock" || j.first.kind == "time" {
			return api.ErrSyntax, t.Pos
		}
		j.texts, j.first = 0, operand{}
	case rule == "operand" && word == "'-'":
		j.signed, j.minus = true, t.Pos
	case rule == "operand":
		o := operand{map[string]string{"name": "tag", "text": "text", "'time'": "clock", "number": "time", "span": "time"}[word], t.Pos, t.Text}
		if j.signed {
			o.pos = j.minus
		}
		j.signed = false
		if j.sign == "" {
			j.first = o
			return 0, 0
		}
		sign, first := j.sign, j.first
		j.sign, j.first = "", operand{}
		return pair(first, sign, o)
	}
	return 0, 0
}

// pair is what is wrong with two operands.
func pair(a operand, sign string, b operand) (api.Errno, int) {
	kinds := a.kind + " " + b.kind
	switch kinds {
	case "clock text":
		return moment(b)
	case "text clock":
		return moment(a)
	case "tag tag", "tag text", "text tag", "text text":
		if sign == "=" || sign == "!=" {
			return 0, 0
		}
	case "clock clock", "clock time", "time clock", "time time":
		return 0, 0
	}
	return api.ErrSyntax, b.pos
}

func moment(o operand) (api.Errno, int) {
	if n, err := span.Time(o.text); err != nil || n == math.MinInt64 {
		return api.ErrTime, o.pos
	}
	return 0, 0
}
