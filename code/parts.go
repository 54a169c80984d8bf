package code

import "weir/api"

// medium is what a program is written into, or read from, part by part: bytes or lines.
// A call that is handed a thing writes it and answers it, or answers the one that it reads.
type medium interface {
	// begin and end are ahead of and behind what stands in a line.
	begin(word string)
	end()
	text(s string) string
	number(n int64) int64
	function(f api.Func) api.Func
	code(c api.Code) api.Code
	// many is ahead of the things of a list, of which n are to be written, each at a word; it tells whether there is one more.
	many(word string, n int) (more func(i int) bool)
}

// Where the things of a list stand at no word of theirs: behind a blank, or each at the name that it has.
const (
	blank   = " "
	itsName = ""
)

// whole writes or reads a program.
func whole(m medium, p api.Program) api.Program {
	p.From = line(m, "from", p.From, medium.text)
	p.Into = line(m, "into", p.Into, medium.text)
	m.begin("window")
	p.Every, p.Offset = m.number(p.Every), m.number(p.Offset)
	m.end()
	p.Groups = lines(m, "group", p.Groups, medium.text)
	p.Accs = lines(m, "acc", p.Accs, accumulator)
	p.Aliases = lines(m, "alias", p.Aliases, medium.text)
	p.Names = lines(m, "name", p.Names, medium.text)
	p.Texts = lines(m, "text", p.Texts, medium.text)
	p.Lists = lines(m, "list", p.Lists, texts)
	p.Times = lines(m, "time", p.Times, medium.number)
	p.Ints = lines(m, "int", p.Ints, medium.number)
	p.Filter = section(m, "filter", p.Filter)
	p.Output = section(m, "output", p.Output)
	return p
}

// each writes or reads the things of a list, one behind the other.
func each[T any](m medium, word string, l []T, one func(m medium, v T) T) []T {
	var made []T
	more := m.many(word, len(l))
	for i := 0; more(i); i++ {
		var v T
		if i < len(l) {
			v = l[i]
		}
		made = append(made, one(m, v))
	}
	return made
}

// line is a thing with a line of its own, which begins with a word.
func line[T any](m medium, word string, v T, one func(m medium, v T) T) T {
	m.begin(word)
	v = one(m, v)
	m.end()
	return v
}

// lines are things with a line each.
func lines[T any](m medium, word string, l []T, one func(m medium, v T) T) []T {
	return each(m, word, l, func(m medium, v T) T { return line(m, word, v, one) })
}

func accumulator(m medium, a api.Acc) api.Acc {
	a.Func = m.function(a.Func)
	a.Field = m.text(a.Field)
	return a
}

func texts(m medium, l []string) []string { return each(m, blank, l, medium.text) }

// section is instructions, behind a line that tells what they are for.
func section(m medium, word string, l []api.Ins) []api.Ins {
	m.begin(word)
	m.end()
	return each(m, itsName, l, instruction)
}

func instruction(m medium, i api.Ins) api.Ins {
	i.Code = m.code(i.Code)
	if Uses(i.Code) > 0 {
		i.A = int(m.number(int64(i.A)))
	}
	if Uses(i.Code) > 1 {
		i.B = int(m.number(int64(i.B)))
	}
	m.end()
	return i
}
