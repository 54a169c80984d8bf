package heap

import (
	"weir/api"
	"weir/fault"
)

// lower tells whether an entry is ahead of another one in a heap of the least.
func lower(one, two api.Entry) bool {
	if one.Rank != two.Rank {
		return one.Rank < two.Rank
	}
	return one.Name < two.Name
}

// greater tells it in a heap of the greatest.
func greater(one, two api.Entry) bool { return lower(two, one) }

// find is the place of the entry of a name.
func (h *Heap) find(name string) (int, error) {
	if h == nil {
		return 0, fault.New(api.ErrNil)
	}
	at, there := h.places[name]
	if !there {
		return 0, fault.New(api.ErrNone)
	}
	return at, nil
}

// lay lets an entry lie at a place, over the one that lay there.
func (h *Heap) lay(at int, e api.Entry) {
	h.entries[at] = e
	h.places[e.Name] = at
}

// push lays an entry behind the last one.
func (h *Heap) push(e api.Entry) {
	h.entries = append(h.entries, e)
	h.lay(len(h.entries)-1, e)
}

// cut takes the last entry off the end.
func (h *Heap) cut() api.Entry {
	end := len(h.entries) - 1
	last := h.entries[end]
	// The room that is left must not hold on to the name.
	h.entries[end] = api.Entry{}
	h.entries = h.entries[:end]
	return last
}

// swap lets the entries of two places change places.
func (h *Heap) swap(i, j int) {
	one, two := h.entries[i], h.entries[j]
	h.lay(i, two)
	h.lay(j, one)
}

// above tells whether the entry at one place is ahead of that at another one.
func (h *Heap) above(i, j int) bool { return h.ahead(h.entries[i], h.entries[j]) }

// up moves the entry at a place up as far as it is ahead, and tells in how many moves.
func (h *Heap) up(at int) int {
	moves := 0
	for at > 0 && h.above(at, parent(at)) {
		h.swap(at, parent(at))
		at = parent(at)
		moves++
	}
	return moves
}

// down moves it down as far as a kid is ahead of it, and tells in how many moves.
func (h *Heap) down(at int) int {
	moves := 0
	for kid := h.kid(at); kid < len(h.entries) && h.above(kid, at); kid = h.kid(at) {
		h.swap(at, kid)
		at = kid
		moves++
	}
	return moves
}

// mend brings the entry at a place, which may be any one, to where it must lie.
func (h *Heap) mend(at int) int {
	if moves := h.up(at); moves > 0 {
		return moves
	}
	return h.down(at)
}

func parent(at int) int { return (at - 1) / 2 }

// kid is the place of the kid that is ahead of the other one; behind the end, if there is none.
func (h *Heap) kid(at int) int {
	first, second := 2*at+1, 2*at+2
	if second < len(h.entries) && h.above(second, first) {
		return second
	}
	return first
}
