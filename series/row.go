package series

import (
	"cmp"
	"slices"

	"weir/api"
)

// row is samples by rising times, none twice.
type row struct {
	samples []api.Sample
}

// find is how many samples lie ahead of a time, and whether one lies at it.
func (r *row) find(t int64) (int, bool) {
	return slices.BinarySearchFunc(r.samples, t, func(x api.Sample, t int64) int { return cmp.Compare(x.Time, t) })
}

// between are the places of the samples of a range: the first one, and the one behind the last.
func (r *row) between(from, to int64) (int, int) {
	first, _ := r.find(from)
	end, _ := r.find(to)
	return first, max(first, end)
}

// number is the sample at a place, if one is there.
func (r *row) number(at int) (api.Sample, bool) {
	if at < 0 || at >= len(r.samples) {
		return api.Sample{}, false
	}
	return r.samples[at], true
}

// change lets another value be at a place, and tells the one that was there.
func (r *row) change(at int, v api.Value) api.Value {
	old := r.samples[at].Value
	r.samples[at].Value = v
	return old
}

// lay lets samples in, by rising times at which there is none, the last one first:
// so each that is there moves once, whatever their number.
func (r *row) lay(fresh []api.Sample) {
	end := len(r.samples)
	r.samples = append(r.samples, fresh...)
	for i := len(fresh) - 1; i >= 0; i-- {
		old := row{r.samples[:end]}
		at, _ := old.find(fresh[i].Time)
		copy(r.samples[at+i+1:], r.samples[at:end])
		r.samples[at+i] = fresh[i]
		end = at
	}
}

// drop takes the samples from one place up to another one away.
func (r *row) drop(first, end int) {
	left := append(r.samples[:first], r.samples[end:]...)
	if len(left) < cap(left)/4 {
		// Without room what is left moves into an array of its own, and the great one is given back.
		left = append(left[:0:0], left...)
	}
	r.samples = left
}
