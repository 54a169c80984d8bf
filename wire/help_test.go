package wire

import (
	"math"
	"math/rand"
	"testing"

	"weir/api"
	"weir/expect"
)

// fails holds an error against a number and a place.
func fails(t *testing.T, what string, err error, e api.Errno, pos int) {
	t.Helper()
	if wrong := expect.Wrong(err, e, pos, expect.None); wrong != "" {
		t.Errorf("%s: %v: %s", what, err, wrong)
	}
}

// someUints are numbers about each length of their bytes.
func someUints() []uint64 {
	all := []uint64{0, 1, 2, 299, 300, math.MaxInt64, math.MaxUint64}
	for n := range 64 {
		all = append(all, 1<<n-1, 1<<n, 1<<n+1)
	}
	return all
}

// someInts are numbers with each sign, about each length of their bytes.
func someInts() []int64 {
	var all []int64
	for _, v := range someUints() {
		all = append(all, int64(v), -int64(v))
	}
	return append(all, math.MinInt64, math.MinInt64+1, math.MaxInt64)
}

// step is one call of a Writer, or the same one of a Reader.
type step struct {
	call  int
	n     int    // of bits
	v     uint64 // of numbers and bits
	text  string // of texts and bytes
	limit int64  // the most of a read
}

// Calls.
const (
	callByte = iota
	callFix32
	callUint
	callInt
	callText
	callRaw
	callBits
	calls
)

// someStep is one of chance, the limit being large enough.
func someStep(r *rand.Rand) step {
	s := step{call: r.Intn(calls), limit: math.MaxInt64}
	v := r.Uint64() >> r.Intn(64)
	switch s.call {
	case callByte:
		s.v = v & 0xff
	case callFix32:
		s.v = v & math.MaxUint32
	case callUint:
		s.v = v & math.MaxInt64
	case callInt:
		s.v = v
	case callText, callRaw:
		b := make([]byte, r.Intn(5))
		if r.Intn(20) == 0 {
			b = make([]byte, 120+r.Intn(20))
		}
		r.Read(b)
		s.text = string(b)
	case callBits:
		s.n = r.Intn(65)
		if r.Intn(2) == 0 {
			s.n = r.Intn(10)
		}
		s.v = v
		if s.n < 64 {
			s.v &= 1<<s.n - 1
		}
	}
	return s
}

// tell has a Writer told a step.
func tell(w *Writer, s step) {
	switch s.call {
	case callByte:
		w.Byte(byte(s.v))
	case callFix32:
		w.Fix32(uint32(s.v))
	case callUint:
		w.Uint(s.v)
	case callInt:
		w.Int(int64(s.v))
	case callText:
		w.Text(s.text)
	case callRaw:
		w.Raw([]byte(s.text))
	case callBits:
		w.Bits(s.v, s.n)
	}
}

// ask has a Reader read as a step says, and answers what it read.
func ask(r *Reader, s step) step {
	out := s
	out.v, out.text = 0, ""
	switch s.call {
	case callByte:
		out.v = uint64(r.Byte())
	case callFix32:
		out.v = uint64(r.Fix32())
	case callUint:
		out.v = r.Uint(uint64(s.limit))
	case callInt:
		out.v = uint64(r.Int())
	case callText:
		out.text = r.Text(int(s.limit))
	case callRaw:
		out.text = string(r.Raw(int(s.limit)))
	case callBits:
		out.v = r.Bits(s.n)
	}
	return out
}
