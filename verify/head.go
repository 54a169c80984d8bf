package verify

import (
	"slices"

	"weir/api"
	"weir/key"
)

// clock is the name that conditions have for the time: nothing else is called so.
const clock = "time"

// rightHead tells whether all of a program is right but its code.
func rightHead(p api.Program) bool {
	return key.Name(p.From) == nil && (p.Into == "" || key.Name(p.Into) == nil) &&
		1 <= p.Every && p.Every <= api.MaxEvery && 0 <= p.Offset && p.Offset < p.Every &&
		len(p.Groups) <= api.MaxTags && all(p.Groups, column) && all(p.Accs, kept) &&
		1 <= len(p.Aliases) && len(p.Aliases) <= api.MaxFields && all(p.Aliases, column) && distinct(p.Aliases) &&
		all(p.Names, column) && all(p.Texts, value) && all(p.Lists, list) &&
		len(p.Filter) <= api.MaxCode && len(p.Output) <= api.MaxCode
}

// all tells whether each of some is right.
func all[T any](l []T, right func(T) bool) bool {
	return !slices.ContainsFunc(l, func(one T) bool { return !right(one) })
}

// distinct tells whether no name stands twice.
func distinct(names []string) bool {
	return len(slices.Compact(slices.Sorted(slices.Values(names)))) == len(names)
}

// column tells whether a tag, a field or an item may be called so.
func column(s string) bool { return s != clock && key.Name(s) == nil }

// value tells whether a tag may be compared with a text, which may be none.
func value(s string) bool { return s == "" || key.Text(s) == nil }

func list(texts []string) bool {
	return 1 <= len(texts) && len(texts) <= api.MaxIn && all(texts, value)
}

// kept tells whether there is such an accumulator.
func kept(a api.Acc) bool {
	switch a.Func {
	case api.Count, api.TotalOf, api.Min, api.Max, api.First, api.Last:
		return column(a.Field)
	}
	return false
}
