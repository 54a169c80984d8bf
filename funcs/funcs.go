// Package funcs has the names of the functions that a query's items call: trees are printed, read, checked and planned by them.
package funcs

import "weir/api"

var names = [...]string{
	api.Count: "count", api.TotalOf: "sum", api.Mean: "mean", api.Min: "min",
	api.Max: "max", api.First: "first", api.Last: "last", api.Spread: "spread",
}

// Name is a function's name; empty, if there is no such function.
func Name(f api.Func) string {
	if int(f) >= len(names) {
		return ""
	}
	return names[f]
}

// Find is the function of a name, or 0.
func Find(name string) api.Func {
	for f, n := range names {
		if n == name {
			return api.Func(f)
		}
	}
	return 0
}
