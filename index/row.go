package index

import (
	"cmp"
	"iter"
	"slices"
)

// A row rises, and has nothing twice. These functions leave those that they
// are handed as they are, but for drop; what they answer may be one of them.

// join is what is in one of two rows, or in both.
func join[T cmp.Ordered](a, b []T) []T {
	if len(a) == 0 {
		return b
	}
	if len(b) == 0 {
		return a
	}
	var out []T
	for _, v := range a {
		for len(b) > 0 && b[0] < v {
			out, b = append(out, b[0]), b[1:]
		}
		if len(b) > 0 && b[0] == v {
			b = b[1:]
		}
		out = append(out, v)
	}
	return append(out, b...)
}

// joinAll is what is in one of some rows. Those that were joined wait on a
// pile, each less than half of the one below, till one comes that is not much
// shorter: so a long row is not gone through for each short one.
func joinAll[T cmp.Ordered](rows iter.Seq[[]T]) []T {
	var pile [][]T
	for row := range rows {
		for len(pile) > 0 && len(pile[len(pile)-1]) <= 2*len(row) {
			row = join(pile[len(pile)-1], row)
			pile = pile[:len(pile)-1]
		}
		pile = append(pile, row)
	}
	var out []T
	for _, row := range slices.Backward(pile) {
		out = join(row, out)
	}
	return out
}

// meet is what is in both of two rows.
func meet[T cmp.Ordered](a, b []T) []T { return sift(a, b, true) }

// meetAll is what is in all and in each of some rows.
func meetAll[T cmp.Ordered](all []T, rows iter.Seq[[]T]) []T {
	for row := range rows {
		all = meet(all, row)
	}
	return all
}

// without is what is in a, and not in b.
func without[T cmp.Ordered](a, b []T) []T { return sift(a, b, false) }

// sift is what is in a, and in b or not, as is asked.
func sift[T cmp.Ordered](a, b []T, in bool) []T {
	var out []T
	for _, v := range a {
		for len(b) > 0 && b[0] < v {
			b = b[1:]
		}
		if in == (len(b) > 0 && b[0] == v) {
			out = append(out, v)
		}
	}
	return out
}

// drop takes v out of a row in which it is.
func drop[T cmp.Ordered](row []T, v T) []T {
	at, _ := slices.BinarySearch(row, v)
	return slices.Delete(row, at, at+1)
}
