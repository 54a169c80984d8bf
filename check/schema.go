package check

import (
	"slices"
	"strings"

	"weir/api"
	"weir/fault"
	"weir/key"
	"weir/lex"
)

// clock is the name that queries have for the time: no tag, no field and no item is called so.
const clock = "time"

// The words of a schema's text. They are none of the queries' language, so a name may be one of them.
const (
	tableWord  = "TABLE"
	tagsWord   = "TAGS"
	fieldsWord = "FIELDS"
)

// tableLooks are what is looked at in a table that stands behind others.
func tableLooks(ahead []api.Table, t api.Table) []look {
	return []look{
		func() error { return key.Name(t.Measure) },
		func() error { return fault.New(when(there(ahead, t.Measure), api.ErrTwice)) },
		func() error {
			return fault.New(when(len(t.Tags) > api.MaxTags || len(t.Fields) > api.MaxFields, api.ErrLong))
		},
		func() error { return columns(t.Tags) },
		func() error { return fault.New(when(len(t.Fields) == 0, api.ErrField)) },
		func() error { return columns(t.Fields) },
	}
}

// columns tells what is wrong with the names of tags, or of fields.
func columns(l []string) error {
	return first([]look{
		func() error {
			return fault.New(when(slices.ContainsFunc(l, func(s string) bool { return !column(s) }), api.ErrName))
		},
		func() error {
			for i, s := range l {
				if slices.Contains(l[:i], s) {
					return fault.New(api.ErrTwice)
				}
			}
			return nil
		},
	})
}

// column tells whether a tag, a field or an item may be called so.
func column(s string) bool { return s != clock && key.Name(s) == nil }

// there tells whether a measure has a table.
func there(l []api.Table, measure string) bool {
	_, err := find(l, measure)
	return err == nil
}

// write is the text of a right schema.
func write(l []api.Table) string {
	var out strings.Builder
	for _, t := range l {
		out.WriteString(tableWord + " " + lex.Quote(t.Measure))
		if len(t.Tags) > 0 {
			out.WriteString(" " + tagsWord + " " + row(t.Tags))
		}
		out.WriteString(" " + fieldsWord + " " + row(t.Fields) + "\n")
	}
	return out.String()
}

// row is names as a text has them.
func row(l []string) string {
	var texts []string
	for _, s := range l {
		texts = append(texts, lex.Quote(s))
	}
	return strings.Join(texts, ", ")
}

// read is the schema of which s is the text, if it is one's text. Of any other text it is some tables,
// and not more of them, nor of names in them, than are too many.
func read(s string) []api.Table {
	var l []api.Table
	for line := range strings.Lines(s) {
		if len(l) > api.MaxTables {
			break
		}
		l = append(l, readTable(line))
	}
	return l
}

func readTable(line string) api.Table {
	var t api.Table
	r := reader{text: line}
	r.take()
	t.Measure = r.take()
	word := r.take()
	if word == tagsWord {
		t.Tags, word = r.names()
	}
	if word == fieldsWord {
		t.Fields, _ = r.names()
	}
	return t
}

// reader takes tokens off a text, one behind the other.
type reader struct {
	text string
	at   int
}

// take is the text of the next token; empty, where there is none.
func (r *reader) take() string {
	t, end, err := lex.Next(r.text, r.at)
	if err != nil {
		return ""
	}
	r.at = end
	return t.Text
}

// names are those with a sign between them, and the word behind them.
func (r *reader) names() (l []string, behind string) {
	for len(l) <= api.MaxFields {
		l = append(l, r.take())
		if behind = r.take(); behind != "," {
			break
		}
	}
	return l, behind
}
