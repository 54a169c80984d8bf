package block

import (
	"math"

	"weir/api"
	"weir/fault"
	"weir/wire"
)

// class is the turns from least to most, which take as few bits as their number needs.
type class struct {
	least, most int64
	size        int
}

// classes stand by rising sizes: a 1 for each class that a turn is not of, and a 0 ahead of what it is in its own.
var classes = [...]class{{0, 0, 0}, {-63, 64, 7}, {-255, 256, 9}, {-2047, 2048, 12}}

// wide is how many bits a turn of no class takes.
const wide = 64

// Times packs times.
func Times(l []int64) ([]byte, error) {
	if len(l) > api.MaxBlock {
		return nil, fault.New(api.ErrLong)
	}
	if !rising(l) {
		return nil, fault.New(api.ErrRange)
	}
	var w wire.Writer
	w.Uint(uint64(len(l)))
	ahead := uint64(0)
	for i, t := range l {
		if i == 0 {
			w.Int(t)
			continue
		}
		// Two times may be further apart than an int64 tells.
		step := uint64(t) - uint64(l[i-1])
		if i == 1 {
			w.Uint(step)
		} else {
			putTurn(&w, int64(step-ahead))
		}
		ahead = step
	}
	return w.Bytes(), nil
}

// UnTimes reads them back.
func UnTimes(b []byte) ([]int64, error) {
	r := wire.NewReader(b)
	var l []int64
	step, t := uint64(0), uint64(0)
	for i, n := 0, count(r); i < n && r.Fault() == nil; i++ {
		switch i {
		case 0:
			t = uint64(r.Int())
		case 1:
			step = r.Uint(math.MaxUint64)
			t += step
		default:
			step += uint64(turn(r))
			t += step
		}
		l = append(l, int64(t))
	}
	if err := r.Done(); err != nil {
		return nil, err
	}
	return alone(l, b, Times)
}

func rising(l []int64) bool {
	for i := 1; i < len(l); i++ {
		if l[i] <= l[i-1] {
			return false
		}
	}
	return true
}

// putTurn writes a turn: by how much a step is greater than the one ahead.
func putTurn(w *wire.Writer, d int64) {
	head, length := uint64(0), 0
	rest, size := uint64(d), wide
search:
	for _, c := range classes {
		head, length = head<<1, length+1
		switch {
		case c.least <= d && d <= c.most:
			rest, size = uint64(d-c.least), c.size
			break search
		default:
			head |= 1
		}
	}
	w.Bits(head, length)
	w.Bits(rest, size)
}

// turn reads what putTurn writes.
func turn(r *wire.Reader) int64 {
	for _, c := range classes {
		if r.Bits(1) == 0 {
			return int64(r.Bits(c.size)) + c.least
		}
	}
	return int64(r.Bits(wide))
}
