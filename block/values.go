package block

import (
	"math/bits"
	"slices"

	"weir/api"
	"weir/fault"
	"weir/wire"
)

// Values packs values.
func Values(l []api.Value) ([]byte, error) {
	if len(l) > api.MaxBlock {
		return nil, fault.New(api.ErrLong)
	}
	if slices.ContainsFunc(l, odd) {
		return nil, fault.New(api.ErrRange)
	}
	var w wire.Writer
	w.Uint(uint64(len(l)))
	var ahead api.Value
	last := int64(0)
	for _, v := range l {
		switch {
		case v == ahead:
			w.Bits(0, 1)
		case v.Kind == api.Int:
			w.Bits(0b10, 2)
			putStep(&w, v.N-last)
			last = v.N
		case v.Kind == api.Over:
			w.Bits(0b110, 3)
		default:
			w.Bits(0b111, 3)
		}
		ahead = v
	}
	return w.Bytes(), nil
}

// UnValues reads them back.
func UnValues(b []byte) ([]api.Value, error) {
	r := wire.NewReader(b)
	var l []api.Value
	var ahead api.Value
	last := int64(0)
	for i, n := 0, count(r); i < n && r.Fault() == nil; i++ {
		switch {
		case r.Bits(1) == 0:
		case r.Bits(1) == 0:
			last += step(r)
			ahead = api.Value{Kind: api.Int, N: last}
		case r.Bits(1) == 0:
			ahead = api.Value{Kind: api.Over}
		default:
			ahead = api.Value{Kind: api.Void}
		}
		l = append(l, ahead)
	}
	if err := r.Done(); err != nil {
		return nil, err
	}
	return alone(l, b, Values)
}

// odd tells whether a value is none.
func odd(v api.Value) bool {
	return v.Kind > api.Void || v.Kind != api.Int && v.N != 0
}

// putStep writes by how much an Int is greater than the last one.
func putStep(w *wire.Writer, d int64) {
	z := uint64(d)<<1 ^ uint64(d>>63)
	size := max(bits.Len64(z), 1)
	w.Bits(uint64(size-1), 6)
	w.Bits(z, size)
}

// step reads what putStep writes.
func step(r *wire.Reader) int64 {
	size := int(r.Bits(6)) + 1
	z := r.Bits(size)
	return int64(z>>1) ^ -int64(z&1)
}
