package parse

import (
	"slices"
	"strings"

	"weir/api"
	"weir/lex"
)

// grammar is the chapter's, word by word: what a text may go on with is asked of it.
const grammar = `
    query   = 'SELECT' item { ',' item } [ 'INTO' name ] 'FROM' name [ 'WHERE' cond ]
              'GROUP' 'BY' 'time' '(' span [ ',' span ] ')' { ',' name }
              [ 'FILL' '(' ( 'last' | [ '-' ] number ) ')' ]
    item    = sum [ 'AS' name ]
    sum     = product { ( '+' | '-' ) product }
    product = signed { ( '*' | '/' | '%' ) signed }
    signed  = '-' signed | single
    single  = number | function '(' name ')' | '(' sum ')'
    cond    = both { 'OR' both }
    both    = opposite { 'AND' opposite }
    opposite = 'NOT' opposite | simple
    simple  = 'TRUE' | 'FALSE' | '(' cond ')' | operand sign operand | operand 'IN' '(' text { ',' text } ')'
    operand = name | text | 'time' | [ '-' ] number | [ '-' ] span
    sign    = '=' | '!=' | '<' | '<=' | '>' | '>='
    function = 'count' | 'sum' | 'mean' | 'min' | 'max' | 'first' | 'last' | 'spread'
`

// network is a grammar as states, and what leads from one to the next: a
// token, a rule, or nothing.
type network struct {
	states     []state
	start, end map[string]rune
	known      map[string][]move
}

type state struct {
	rule string
	ways []way
}

type way struct {
	word string
	to   rune
}

// move is a token with which a text may go on (none: its end), and where that
// leads. A place in a grammar is written as the states to which its rules
// return, the innermost one last; path are these rules.
type move struct {
	word, next string
	path       []string
}

// learn makes a network of a grammar.
func learn(text string) *network {
	n := &network{start: map[string]rune{}, end: map[string]rune{}, known: map[string][]move{}}
	words := strings.Fields(text)
	for len(words) > 0 {
		last := len(words)
		for i := 2; i+1 < len(words); i++ {
			if words[i+1] == "=" {
				last = i
				break
			}
		}
		rule := words[0]
		n.start[rule] = n.add(rule)
		rest := append(slices.Clone(words[2:last]), "")
		n.end[rule], _ = n.choice(rule, rest, n.start[rule])
		words = words[last:]
	}
	return n
}

func (n *network) add(rule string) rune {
	n.states = append(n.states, state{rule: rule})
	return rune(len(n.states) - 1)
}

func (n *network) lead(from rune, word string, to rune) {
	n.states[from].ways = append(n.states[from].ways, way{word, to})
}

// choice takes in what | stands between, up to a closing bracket or the end.
func (n *network) choice(rule string, words []string, from rune) (rune, []string) {
	to := n.add(rule)
	for {
		first := n.add(rule)
		n.lead(from, "", first)
		var last rune
		last, words = n.row(rule, words, first)
		n.lead(last, "", to)
		if words[0] != "|" {
			return to, words
		}
		words = words[1:]
	}
}

// row takes in what stands side by side.
func (n *network) row(rule string, words []string, at rune) (rune, []string) {
	for !slices.Contains([]string{"|", ")", "]", "}", ""}, words[0]) {
		word := words[0]
		words = words[1:]
		if !slices.Contains([]string{"(", "[", "{"}, word) {
			to := n.add(rule)
			n.lead(at, word, to)
			at = to
			continue
		}
		var to rune
		to, words = n.choice(rule, words, at)
		words = words[1:]
		switch word {
		case "[":
			n.lead(at, "", to)
			at = to
		case "{":
			// What comes behind starts afresh, so that a piece that comes again does not come into it.
			again := n.add(rule)
			n.lead(at, "", again)
			n.lead(to, "", at)
			at = again
		default:
			at = to
		}
	}
	return at, words
}

// moves are the tokens with which a text may go on at a place.
func (n *network) moves(place string) []move {
	if l, ok := n.known[place]; ok {
		return l
	}
	var found []move
	seen := map[string]bool{}
	var visit func(place []rune)
	visit = func(place []rune) {
		if seen[string(place)] {
			return
		}
		seen[string(place)] = true
		outer, top := slices.Clone(place[:len(place)-1]), place[len(place)-1]
		if n.end[n.states[top].rule] == top {
			if len(outer) == 0 {
				found = append(found, move{})
			} else {
				visit(outer)
			}
		}
		for _, w := range n.states[top].ways {
			next := append(slices.Clone(outer), w.to)
			if w.word == "" {
				visit(next)
			} else if start, isRule := n.start[w.word]; isRule {
				visit(append(next, start))
			} else {
				found = append(found, move{w.word, string(next), n.path(next)})
			}
		}
	}
	visit([]rune(place))
	n.known[place] = found
	return found
}

// goOn is what becomes of a token at places: what it is there (that is the same at all), and the places behind it.
func (n *network) goOn(places []string, t api.Token) (m move, next []string) {
	for _, place := range places {
		for _, other := range n.moves(place) {
			if !fits(other.word, t) {
				continue
			}
			if len(next) > 0 && (other.word != m.word || !slices.Equal(other.path, m.path)) {
				panic("the grammar takes a token for two things")
			}
			m = other
			if !slices.Contains(next, m.next) {
				next = append(next, m.next)
			}
		}
	}
	return m, next
}

// path are the rules in which a place stands.
func (n *network) path(place []rune) []string {
	var rules []string
	for _, s := range place {
		rules = append(rules, n.states[s].rule)
	}
	return rules
}

// fits tells whether a token is one that a grammar's word means.
func fits(word string, t api.Token) bool {
	switch word {
	case "":
		return t.Kind == api.End
	case "name":
		return t.Kind == api.Name || t.Kind == api.Word && !lex.Key(t.Text)
	case "number":
		return t.Kind == api.Number
	case "span":
		return t.Kind == api.Span
	case "text":
		return t.Kind == api.Text
	}
	itself := strings.Trim(word, "'")
	return t.Kind == api.Sign && t.Text == itself || t.Kind == api.Word && strings.ToLower(t.Text) == strings.ToLower(itself)
}
