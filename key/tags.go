package key

import (
	"slices"
	"strings"

	"weir/api"
)

// Sort puts tags into order.
func Sort(l []api.Tag) []api.Tag {
	sorted := slices.Clone(l)
	// The last one of a key comes first, so that the others are dropped behind it.
	slices.Reverse(sorted)
	slices.SortStableFunc(sorted, compareKeys)
	return slices.CompactFunc(sorted, sameKey)
}

// Value is a tag's value; empty: there is none.
func Value(l []api.Tag, name string) string {
	for _, t := range l {
		if t.Key == name {
			return t.Value
		}
	}
	return ""
}

// Group are the values of some tags.
func Group(l []api.Tag, names []string) []string {
	values := make([]string, len(names))
	for i, name := range names {
		values[i] = Value(l, name)
	}
	return values
}

// Join are tags of these names and values, those without a value left out.
func Join(names, values []string) []api.Tag {
	var l []api.Tag
	for i := range min(len(names), len(values)) {
		if values[i] != "" {
			l = append(l, api.Tag{Key: names[i], Value: values[i]})
		}
	}
	return Sort(l)
}

// rising tells whether tags stand in order, no key twice.
func rising(l []api.Tag) bool {
	for i := 1; i < len(l); i++ {
		if l[i-1].Key >= l[i].Key {
			return false
		}
	}
	return true
}

func compareKeys(a, b api.Tag) int { return strings.Compare(a.Key, b.Key) }

func compareTags(a, b api.Tag) int {
	if c := compareKeys(a, b); c != 0 {
		return c
	}
	return strings.Compare(a.Value, b.Value)
}

func sameKey(a, b api.Tag) bool { return a.Key == b.Key }
