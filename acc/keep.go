package acc

import (
	"maps"

	"weir/api"
	"weir/fault"
	"weir/heap"
	"weir/num"
)

// place is what a number is in under.
type place struct {
	series string
	time   int64
}

// keeper is what a function keeps of the numbers that are in: as little as
// it needs to tell without going through them, and to take each back.
type keeper interface {
	add(p place, n int64) error
	remove(p place) error
	tell() api.Slot // asked only where a number is in: so Some is left to the one who asks
	size() int
}

// fresh keeps nothing yet; nil, if no accumulator is of that function.
func fresh(f api.Func) keeper {
	switch f {
	case api.Count:
		return &counter{map[place]struct{}{}}
	case api.TotalOf:
		return &total{numbers: map[place]int64{}}
	case api.Min, api.Max:
		return &extreme{heap.New(f == api.Max)}
	case api.First, api.Last:
		return &edge{heap.New(f == api.Last), map[string]int64{}}
	}
	return nil
}

// another keeps the same in memory of its own.
func another(k keeper) keeper {
	switch k := k.(type) {
	case *counter:
		return &counter{maps.Clone(k.places)}
	case *total:
		return &total{maps.Clone(k.numbers), k.sum}
	case *extreme:
		return &extreme{k.ranked.Fork()}
	case *edge:
		return &edge{k.timed.Fork(), maps.Clone(k.numbers)}
	}
	return nil
}

// counter is Count's.
type counter struct {
	places map[place]struct{}
}

func (c *counter) add(p place, n int64) error { return put(c.places, p, struct{}{}) }

func (c *counter) remove(p place) error {
	_, err := take(c.places, p)
	return err
}

func (c *counter) tell() api.Slot { return api.Slot{N: int64(len(c.places))} }

func (c *counter) size() int { return len(c.places) }

// total is TotalOf's.
type total struct {
	numbers map[place]int64
	sum     api.Sum
}

func (s *total) add(p place, n int64) error {
	if err := put(s.numbers, p, n); err != nil {
		return err
	}
	s.sum = num.Plus(s.sum, n)
	return nil
}

func (s *total) remove(p place) error {
	n, err := take(s.numbers, p)
	if err != nil {
		return err
	}
	s.sum = num.Minus(s.sum, n)
	return nil
}

func (s *total) tell() api.Slot { return api.Slot{Sum: s.sum} }

func (s *total) size() int { return len(s.numbers) }

// put lets a thing be in under what none is in under.
func put[V any](m map[place]V, p place, v V) error {
	if _, known := m[p]; known {
		return fault.New(api.ErrKnown)
	}
	m[p] = v
	return nil
}

// take takes it out.
func take[V any](m map[place]V, p place) (V, error) {
	v, there := m[p]
	if !there {
		return v, fault.New(api.ErrNone)
	}
	delete(m, p)
	return v, nil
}
