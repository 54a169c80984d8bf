package index

import (
	"maps"
	"slices"

	"weir/api"
)

// table is the series of a measure. What none of them has is not there.
type table struct {
	all    []number
	fields map[string]int // how many series have the field
	tags   map[string]*tag
}

// tag is the series that have a tag: all of them, and by its values.
type tag struct {
	all    []number
	values map[string][]number
}

func newTable() *table { return &table{fields: map[string]int{}, tags: map[string]*tag{}} }

func newTag() *tag { return &tag{values: map[string][]number{}} }

func (t *table) fork() *table {
	other := &table{all: slices.Clone(t.all), fields: maps.Clone(t.fields), tags: map[string]*tag{}}
	for name, g := range t.tags {
		other.tags[name] = g.fork()
	}
	return other
}

func (g *tag) fork() *tag {
	other := &tag{all: slices.Clone(g.all), values: map[string][]number{}}
	for value, row := range g.values {
		other.values[value] = slices.Clone(row)
	}
	return other
}

// add takes a series in, whose number is above all that are there.
func (t *table) add(n number, s api.Series) {
	t.all = append(t.all, n)
	t.fields[s.Field]++
	for _, on := range s.Tags {
		if t.tags[on.Key] == nil {
			t.tags[on.Key] = newTag()
		}
		g := t.tags[on.Key]
		g.all = append(g.all, n)
		g.values[on.Value] = append(g.values[on.Value], n)
	}
}

// remove takes one out that is there.
func (t *table) remove(n number, s api.Series) {
	t.all = drop(t.all, n)
	t.fields[s.Field]--
	if t.fields[s.Field] == 0 {
		delete(t.fields, s.Field)
	}
	for _, on := range s.Tags {
		g := t.tags[on.Key]
		g.all = drop(g.all, n)
		if len(g.all) == 0 {
			delete(t.tags, on.Key)
		}
		g.values[on.Value] = drop(g.values[on.Value], n)
		if len(g.values[on.Value]) == 0 {
			delete(g.values, on.Value)
		}
	}
}

// tag is what is there of a tag: an empty one, if that is nothing.
func (t *table) tag(name string) *tag {
	if t.tags[name] == nil {
		return newTag()
	}
	return t.tags[name]
}

// find are the series of which a tag has a value; an empty value: which do not have the tag.
func (t *table) find(name, value string) []number {
	if value == "" {
		return without(t.all, t.tag(name).all)
	}
	return t.tag(name).values[value]
}
