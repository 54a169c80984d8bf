package batch

// sorted is a row in the order that ahead tells, which may leave no two elements on a par.
// Pieces of it that stand in order already are laid into a heap by their first elements, and
// the first of all is taken off till none is left: so a row in order is merely gone through.
func sorted[T any](row []T, ahead func(a, b T) bool) []T {
	heap := pieces(row, ahead)
	first := func(a, b []T) bool { return ahead(a[0], b[0]) }
	for root := len(heap) - 1; root >= 0; root-- {
		sink(heap, root, first)
	}
	out := make([]T, 0, len(row))
	for len(heap) > 0 {
		top := heap[0]
		out = append(out, top[0])
		if len(top) > 1 {
			heap[0] = top[1:]
		} else {
			last := len(heap) - 1
			heap[0] = heap[last]
			heap = heap[:last]
		}
		sink(heap, 0, first)
	}
	return out
}

// pieces cuts a row into pieces, as long as can be, whose elements stand in order.
func pieces[T any](row []T, ahead func(a, b T) bool) [][]T {
	var cut [][]T
	for len(row) > 0 {
		end := 1
		for end < len(row) && ahead(row[end-1], row[end]) {
			end++
		}
		cut = append(cut, row[:end])
		row = row[end:]
	}
	return cut
}

// sink lets the element at root go down a heap, till it stands ahead of those below it.
func sink[T any](heap []T, root int, ahead func(a, b T) bool) {
	for {
		kid := 2*root + 1
		if kid >= len(heap) {
			return
		}
		if kid+1 < len(heap) && ahead(heap[kid+1], heap[kid]) {
			kid++
		}
		if ahead(heap[root], heap[kid]) {
			return
		}
		heap[root], heap[kid] = heap[kid], heap[root]
		root = kid
	}
}
