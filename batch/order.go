package batch

import (
	"cmp"
	"slices"

	"weir/api"
	"weir/key"
)

// Compare puts samples into order.
func Compare(a, b api.Write) int {
	if c := key.Compare(a.Series, b.Series); c != 0 {
		return c
	}
	return cmp.Compare(a.Sample.Time, b.Sample.Time)
}

// Order puts samples into order, the last one of each series and time.
func Order(l []api.Write) []api.Write {
	// Places are sorted in the samples' stead: they are small, and tell which of two came last.
	places := make([]int, len(l))
	for i := range places {
		places[i] = i
	}
	places = sorted(places, func(a, b int) bool {
		c := Compare(l[a], l[b])
		return c < 0 || c == 0 && a > b
	})
	var ordered []api.Write
	for i, at := range places {
		if i == 0 || Compare(l[places[i-1]], l[at]) != 0 {
			w := l[at]
			w.Series.Tags = slices.Clone(w.Series.Tags)
			ordered = append(ordered, w)
		}
	}
	return ordered
}

// Merge lays one row of samples over another one.
func Merge(old, now []api.Write) []api.Write { return Order(slices.Concat(old, now)) }

// Points are rows of samples as points.
func Points(l []api.Write) []api.Point {
	// The order comes first: a mark that was written over a number hides it.
	writes := slices.DeleteFunc(Order(l), func(w api.Write) bool { return w.Sample.Value.Kind != api.Int })
	writes = sorted(writes, func(a, b api.Write) bool {
		c := comparePoints(a, b)
		return c < 0 || c == 0 && a.Series.Field < b.Series.Field
	})
	var points []api.Point
	for i, w := range writes {
		if i == 0 || comparePoints(writes[i-1], w) != 0 {
			points = append(points, api.Point{Measure: w.Series.Measure, Tags: w.Series.Tags, Time: w.Sample.Time})
		}
		p := &points[len(points)-1]
		p.Fields = append(p.Fields, api.Field{Key: w.Series.Field, N: w.Sample.Value.N})
	}
	return points
}

// comparePoints puts the points into order to which two samples belong.
func comparePoints(a, b api.Write) int {
	a.Series.Field, b.Series.Field = "", ""
	return Compare(a, b)
}
