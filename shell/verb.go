package shell

// part takes a word of a line into a call, and tells whether it is of its form.
type part func(*call, word) bool

// verb is what a line's first word says.
type verb struct {
	form []part
	more bool // the last one may stand several times
	do   func(*call) string
}

// verbs are all that a line may begin with.
func verbs() map[string]verb {
	there, given, number, moment, text := (*call).there, (*call).given, (*call).number, (*call).moment, (*call).text
	return map[string]verb{
		"new":      {form: []part{given, number, number, text}, more: true, do: (*call).begin},
		"fork":     {form: []part{there, given}, do: (*call).fork},
		"plain":    {form: []part{there}, do: (*call).plain},
		"best":     {form: []part{there}, do: (*call).best},
		"register": {form: []part{there, text}, do: (*call).register},
		"drop":     {form: []part{there, number}, do: (*call).drop},
		"write":    {form: []part{there, text}, more: true, do: (*call).write},
		"delete":   {form: []part{there, text, text, moment, moment}, do: (*call).remove},
		"expire":   {form: []part{there, text, moment}, do: (*call).expire},
		"read":     {form: []part{there, text, text, moment, moment}, do: (*call).read},
		"select":   {form: []part{there, text}, do: (*call).choose},
		"explain":  {form: []part{there, number}, do: (*call).explain},
		"queries":  {form: []part{there}, do: (*call).queries},
		"query":    {form: []part{there, number}, do: (*call).query},
		"horizon":  {form: []part{there, text}, do: (*call).horizon},
		"tables":   {form: []part{there}, do: (*call).tables},
		"count":    {form: []part{there}, do: (*call).count},
		"steps":    {form: []part{there}, do: (*call).steps},
		"pack":     {form: []part{there}, do: (*call).pack},
		"even":     {form: []part{there, there}, do: (*call).even},
	}
}

// reads takes words into a call, and tells whether they are as many as must be, each of its form.
func (v verb) reads(c *call, words []word) bool {
	if len(words) < len(v.form) || len(words) > len(v.form) && !v.more {
		return false
	}
	for i, w := range words {
		if takes := v.form[min(i, len(v.form)-1)]; !takes(c, w) {
			return false
		}
	}
	return true
}
