package plan

import (
	"strconv"
	"strings"

	"weir/api"
	"weir/ast"
	"weir/funcs"
	"weir/lex"
	"weir/span"
)

// words stand in a line for what a node is.
var words = [...]string{
	api.OpInt: "int", api.OpAcc: "acc", api.OpRatio: "ratio", api.OpNeg: "neg",
	api.OpAdd: "add", api.OpSub: "sub", api.OpMul: "mul", api.OpDiv: "div", api.OpMod: "mod",
}

// lines are gathered one behind the other.
type lines struct{ text strings.Builder }

func (l *lines) add(parts ...string) { l.text.WriteString(strings.Join(parts, " ") + "\n") }

// explained is a right plan as lines.
func explained(p api.Plan) string {
	var l lines
	l.add("from", lex.Quote(p.From))
	if p.Into != "" {
		l.add("into", lex.Quote(p.Into))
	}
	l.add("window", span.Print(p.Every), span.Print(p.Offset))
	for _, group := range p.Groups {
		l.add("group", lex.Quote(group))
	}
	if len(p.Where) > 0 {
		// The condition of a right plan is right.
		where, _ := ast.PrintCond(p.Where)
		l.add("where", where)
	}
	for i, acc := range p.Accs {
		l.add("acc", strconv.Itoa(i), funcs.Name(acc.Func), lex.Quote(acc.Field))
	}
	for _, out := range p.Outs {
		l.add(append([]string{"out", lex.Quote(out.Alias)}, said(out.Tree)...)...)
	}
	return l.text.String()
}

// said are the words of an out's nodes.
func said(l []api.Node) []string {
	var parts []string
	for _, n := range l {
		parts = append(parts, words[n.Op])
		if n.Op == api.OpInt || n.Op == api.OpAcc {
			parts = append(parts, strconv.FormatInt(n.N, 10))
		}
	}
	return parts
}
