package wire

import (
	"bytes"
	"errors"
	"math"
	"math/rand"
	"strings"
	"testing"

	"weir/api"
	"weir/expect"
	"weir/fault"
)

// The chapter's second and third example.
func TestReadExamples(t *testing.T) {
	r := NewReader([]byte("\xb0\x07"))
	if a, b, c := r.Bits(3), r.Bits(1), r.Byte(); a != 5 || b != 1 || c != 7 || r.Done() != nil {
		t.Errorf("%d, %d, %d, %v", a, b, c, r.Done())
	}
	r = NewReader([]byte("\xb1\x07"))
	if a, b, c := r.Bits(3), r.Bits(1), r.Byte(); a != 5 || b != 1 || c != 0 {
		t.Errorf("%d, %d, %d", a, b, c)
	}
	fails(t, "b1 07", r.Fault(), api.ErrForm, 0)
}

// P3.2, row by row.
func TestReadFaults(t *testing.T) {
	number := func(s string, e api.Errno, pos int) {
		t.Helper()
		for name, read := range map[string]func(r *Reader){
			"Uint": func(r *Reader) { r.Uint(math.MaxUint64) },
			"Int":  func(r *Reader) { r.Int() },
			"Text": func(r *Reader) { r.Text(math.MaxInt) },
			"Raw":  func(r *Reader) { r.Raw(math.MaxInt) },
		} {
			r := NewReader([]byte(s))
			read(r)
			fails(t, name+" of "+s, r.Fault(), e, pos)
		}
	}
	number("", api.ErrShort, 0)
	number("\x80", api.ErrShort, 1)
	number("\xff\xff", api.ErrShort, 2)
	number(strings.Repeat("\xff", 9), api.ErrShort, 9)
	number("\x80\x00", api.ErrForm, 1)
	number("\xff\x80\x00", api.ErrForm, 2)
	number(strings.Repeat("\xff", 9)+"\x00", api.ErrForm, 9)
	number(strings.Repeat("\xff", 9)+"\x02", api.ErrForm, 9)
	number(strings.Repeat("\x80", 9)+"\x80", api.ErrForm, 9)
	number(strings.Repeat("\x80", 9)+"\x81\x00", api.ErrForm, 9)
	number(strings.Repeat("\xff", 100), api.ErrForm, 9)
}

func TestReadFaultsOfOne(t *testing.T) {
	for _, c := range []struct {
		in   string
		read func(r *Reader)
		e    api.Errno
		at   int
	}{
		{"", func(r *Reader) { r.Byte() }, api.ErrShort, 0},
		{"", func(r *Reader) { r.Fix32() }, api.ErrShort, 0},
		{"abc", func(r *Reader) { r.Fix32() }, api.ErrShort, 3},
		{"", func(r *Reader) { r.Bits(1) }, api.ErrShort, 0},
		{"\xff", func(r *Reader) { r.Bits(9) }, api.ErrShort, 1},
		{"\xff", func(r *Reader) { r.Bits(5); r.Bits(4) }, api.ErrShort, 1},
		{"1234567", func(r *Reader) { r.Bits(math.MaxInt) }, api.ErrShort, 7},
		{"\xac\x02", func(r *Reader) { r.Uint(299) }, api.ErrRange, 0},
		{"\x00\x01", func(r *Reader) { r.Byte(); r.Uint(0) }, api.ErrRange, 1},
		{"\x80\x00", func(r *Reader) { r.Uint(0) }, api.ErrForm, 1},
		{"\xff", func(r *Reader) { r.Uint(0) }, api.ErrShort, 1},
		{"\x02a", func(r *Reader) { r.Text(1) }, api.ErrLong, 0},
		{"\x02a", func(r *Reader) { r.Text(9) }, api.ErrShort, 2},
		{"\x02a", func(r *Reader) { r.Raw(1) }, api.ErrLong, 0},
		{"\x02a", func(r *Reader) { r.Raw(9) }, api.ErrShort, 2},
		{"\x02a", func(r *Reader) { r.Raw(2) }, api.ErrShort, 2},
		{"\x00", func(r *Reader) { r.Text(-1) }, api.ErrLong, 0},
		{"\x00", func(r *Reader) { r.Raw(math.MinInt) }, api.ErrLong, 0},
		{"\x07\x00", func(r *Reader) { r.Byte(); r.Raw(-1) }, api.ErrLong, 1},
		{"", func(r *Reader) { r.Text(-1) }, api.ErrShort, 0},
		{"\x80\x00", func(r *Reader) { r.Text(0) }, api.ErrForm, 1},
		{"\xff\xff\xff\xff\xff\xff\xff\xff\xff\x01a", func(r *Reader) { r.Text(math.MaxInt) }, api.ErrLong, 0},
		{"\xff\xff\xff\xff\xff\xff\xff\xff\x7fa", func(r *Reader) { r.Text(math.MaxInt) }, api.ErrShort, 10},
		{"\x20\x02a", func(r *Reader) { r.Bits(3); r.Text(1) }, api.ErrLong, 1},
	} {
		r := NewReader([]byte(c.in))
		c.read(r)
		fails(t, c.in, r.Fault(), c.e, c.at)
	}
}

// What is left of a begun byte is looked at ahead of all else.
func TestBegunByte(t *testing.T) {
	for call := range callBits {
		for _, in := range []string{"\x81", "\x81\x80\x00", "\x81\x00\x00\x00\x00"} {
			r := NewReader([]byte(in))
			r.Bits(5)
			ask(r, step{call: call, limit: math.MaxInt64})
			fails(t, in, r.Fault(), api.ErrForm, 0)
			if r.At() != 1 || r.Left() != len(in)-1 {
				t.Errorf("%x: at %d, %d left", in, r.At(), r.Left())
			}
		}
	}
	r := NewReader([]byte("\x81\xff"))
	if a, b := r.Bits(5), r.Bits(4); a != 16 || b != 3 || r.Fault() != nil {
		t.Errorf("bits behind bits: %d, %d, %v", a, b, r.Fault())
	}
	r = NewReader([]byte("\x81\x05"))
	if a, b := r.Bits(8), r.Byte(); a != 0x81 || b != 5 || r.Done() != nil {
		t.Errorf("a byte behind all bits of one: %d, %d, %v", a, b, r.Done())
	}
}

// With a fault all reads answer zero and change nothing; one that meets it stays where it was.
func TestReadsBehindAFault(t *testing.T) {
	in := "\x05\x81\x01\x02\x03\x04\x05\x06\x07\x08\x09"
	r := NewReader([]byte(in))
	r.Byte()
	r.Uint(128)
	fails(t, in, r.Fault(), api.ErrRange, 1)
	kept := r.Fault()
	for call := range calls {
		s := ask(r, step{call: call, n: 3, limit: math.MaxInt64})
		if s.v != 0 || s.text != "" || r.At() != 1 || r.Left() != 10 || r.Fault() != kept || r.Done() != kept {
			t.Errorf("call %d: %v, at %d, %d left, %v, %v", call, s, r.At(), r.Left(), r.Fault(), r.Done())
		}
	}
	if b := r.Raw(9); len(b) != 0 {
		t.Errorf("Raw: %x", b)
	}
}

// P3.3
func TestFail(t *testing.T) {
	first, second := errors.New("first"), fault.In(3, fault.At(7, api.ErrSum))
	r := NewReader([]byte("ab"))
	r.Fail(nil)
	if r.Fault() != nil || r.Byte() != 'a' {
		t.Errorf("Fail(nil): %v", r.Fault())
	}
	r.Fail(first)
	r.Fail(second)
	r.Fail(nil)
	if r.Fault() != first || r.Done() != first || r.Byte() != 0 || r.At() != 1 || r.Left() != 1 {
		t.Errorf("Fail: %v, %v, at %d", r.Fault(), r.Done(), r.At())
	}
	r = NewReader(nil)
	r.Byte()
	r.Fail(first)
	fails(t, "Fail behind a fault", r.Fault(), api.ErrShort, 0)
	r = NewReader(nil)
	r.Fail(second)
	if r.Fault() != second || r.Done() != second {
		t.Errorf("%v, %v", r.Fault(), r.Done())
	}
}

// P3.3
func TestDone(t *testing.T) {
	r := NewReader([]byte("\xa0\x07"))
	fails(t, "nothing read", r.Done(), api.ErrMore, 0)
	r.Bits(2)
	fails(t, "bits left that are not 0", r.Done(), api.ErrForm, 0)
	if r.Fault() != nil {
		t.Errorf("Done leaves a fault: %v", r.Fault())
	}
	r.Bits(1)
	fails(t, "a byte left", r.Done(), api.ErrMore, 1)
	if r.Byte() != 7 || r.Done() != nil {
		t.Errorf("all read: %v", r.Done())
	}
	r = NewReader(nil)
	if r.Done() != nil || r.Fault() != nil || r.At() != 0 || r.Left() != 0 {
		t.Errorf("no bytes: %v, %v, %d, %d", r.Done(), r.Fault(), r.At(), r.Left())
	}
	if r.Bits(0) != 0 || r.Bits(-5) != 0 || r.Done() != nil {
		t.Errorf("no bits of no bytes: %v", r.Done())
	}
	r = NewReader([]byte("\xa0"))
	r.Bits(3)
	if r.Done() != nil {
		t.Errorf("zeros left of a byte: %v", r.Done())
	}
}

// P3.3
func TestNilReader(t *testing.T) {
	var r *Reader
	for call := range calls {
		if s := ask(r, step{call: call, n: 3, limit: math.MaxInt64}); s.v != 0 || s.text != "" {
			t.Errorf("call %d: %v", call, s)
		}
	}
	r.Uint(0)
	r.Text(-1)
	r.Fail(errors.New("x"))
	if r.At() != 0 || r.Left() != 0 {
		t.Errorf("at %d, %d left", r.At(), r.Left())
	}
	fails(t, "Fault", r.Fault(), api.ErrNil, expect.None)
	fails(t, "Done", r.Done(), api.ErrNil, expect.None)
}

// NewReader reads b as it was; what is answered is the caller's.
func TestReaderKeepsItsBytes(t *testing.T) {
	b := []byte("\x02ab\x02cd")
	r := NewReader(b)
	copy(b, "\xff\xff\xff\xff\xff\xff")
	first := r.Raw(2)
	first = append(first, 9, 9, 9)
	second := r.Text(2)
	if string(first[:2]) != "ab" || second != "cd" || r.Done() != nil {
		t.Errorf("%q, %q, %v", first, second, r.Done())
	}
	b = []byte("\x02ab\x02ab")
	r = NewReader(b)
	r.Raw(2)[0] = 'x'
	if string(b) != "\x02ab\x02ab" || string(r.Raw(2)) != "ab" {
		t.Errorf("%x", b)
	}
}

// model is a Reader by a place in bits, told by the chapter's table.
type model struct {
	all   string
	bit   int // where the next bit stands
	fault error
}

func (m *model) at() int { return (m.bit + 7) / 8 }

// ragged: something is left of a begun byte that is not 0.
func (m *model) ragged() bool {
	for i := m.bit; i%8 != 0; i++ {
		if m.all[i/8]>>(7-i%8)&1 != 0 {
			return true
		}
	}
	return false
}

func (m *model) fail(pos int, e api.Errno) { m.fault = fault.At(pos, e) }

// varint is the number at a place, and where it ends.
func (m *model) varint(from int) (v uint64, to int) {
	for i, shift := from, 0; ; i, shift = i+1, shift+7 {
		if i >= len(m.all) {
			m.fail(len(m.all), api.ErrShort)
			return 0, 0
		}
		b := m.all[i]
		if i-from == 9 && b > 1 || i > from && b == 0 {
			m.fail(i, api.ErrForm)
			return 0, 0
		}
		v += uint64(b%128) << shift
		if b < 128 {
			return v, i + 1
		}
	}
}

func (m *model) bits(n int) (v uint64) {
	n = min(max(n, 0), 64)
	if m.bit+n > 8*len(m.all) {
		m.fail(len(m.all), api.ErrShort)
		return 0
	}
	for range n {
		v = 2*v + uint64(m.all[m.bit/8]>>(7-m.bit%8)&1)
		m.bit++
	}
	return v
}

func (m *model) read(s step) step {
	s.v, s.text = 0, ""
	if m.fault != nil {
		return s
	}
	if s.call == callBits {
		s.v = m.bits(s.n)
		return s
	}
	from := m.at()
	if m.ragged() {
		m.fail(from-1, api.ErrForm)
		return s
	}
	to := from
	switch s.call {
	case callByte, callFix32:
		to = from + 1 + 3*s.call
		if to > len(m.all) {
			m.fail(len(m.all), api.ErrShort)
			return s
		}
		for _, b := range []byte(m.all[from:to]) {
			s.v = s.v*256 + uint64(b)
		}
	default:
		var v uint64
		v, to = m.varint(from)
		if m.fault != nil {
			return s
		}
		switch {
		case s.call == callUint && v > uint64(s.limit):
			m.fail(from, api.ErrRange)
			return s
		case s.call == callInt:
			s.v = v / 2
			if v%2 == 1 {
				s.v = -s.v - 1
			}
		case s.call == callUint:
			s.v = v
		case s.limit < 0 || v > uint64(s.limit):
			m.fail(from, api.ErrLong)
			return s
		case v > uint64(len(m.all)-to):
			m.fail(len(m.all), api.ErrShort)
			return s
		default:
			s.text = m.all[to : to+int(v)]
			to += int(v)
		}
	}
	m.bit = 8 * to
	return s
}

func (m *model) done() error {
	switch {
	case m.fault != nil:
		return m.fault
	case m.ragged():
		return fault.At(m.at()-1, api.ErrForm)
	case m.at() < len(m.all):
		return fault.At(m.at(), api.ErrMore)
	}
	return nil
}

// someBytes are of those by which numbers are long, or wrong.
func someBytes(r *rand.Rand) []byte {
	b := make([]byte, r.Intn(24))
	for i := range b {
		b[i] = []byte{0, 0, 0, 1, 2, 3, 0x40, 0x7f, 0x80, 0x80, 0x80, 0x81, 0xff, 0xff, 0xff, byte(r.Int())}[r.Intn(16)]
	}
	return b
}

// P3.2, P3.3: any reads of any bytes.
func TestReaderAsTheTableSays(t *testing.T) {
	chance := rand.New(rand.NewSource(2))
	told := map[api.Errno]int{}
	for range 40000 {
		b := someBytes(chance)
		r, m := NewReader(b), &model{all: string(b)}
		for range 1 + chance.Intn(8) {
			s := someStep(chance)
			s.n = chance.Intn(72) - 4
			s.limit = []int64{math.MaxInt64, -1, 0, 1, 2, 127, 128, math.MinInt64}[chance.Intn(8)]
			got, want := ask(r, s), m.read(s)
			if got != want || r.At() != m.at() || r.Left() != len(b)-m.at() || r.Fault() != m.fault || r.Done() != m.done() {
				t.Fatalf("%x, %v: %v, %d, %d, %v, %v; not %v, %d, %v, %v", b, s, got, r.At(), r.Left(), r.Fault(), r.Done(), want, m.at(), m.fault, m.done())
			}
		}
		told[fault.Code(r.Done())]++
	}
	for _, e := range []api.Errno{0, api.ErrForm, api.ErrShort, api.ErrRange, api.ErrLong, api.ErrMore} {
		if told[e] < 10 {
			t.Errorf("the error %d came up %d times alone", e, told[e])
		}
	}
}

// P3.5
func TestWrittenAndRead(t *testing.T) {
	chance := rand.New(rand.NewSource(3))
	for range 3000 {
		var w Writer
		steps := make([]step, chance.Intn(20))
		for i := range steps {
			steps[i] = someStep(chance)
			tell(&w, steps[i])
		}
		r := NewReader(w.Bytes())
		for _, s := range steps {
			if got := ask(r, s); got != s {
				t.Fatalf("%v was told, %v is read", s, got)
			}
		}
		if r.Done() != nil {
			t.Fatalf("%v: %v", steps, r.Done())
		}
	}
	for _, v := range someUints() {
		var w Writer
		w.Uint(v)
		r := NewReader(w.Bytes())
		if got := r.Uint(v); got != v || r.Done() != nil {
			t.Errorf("%d: %d, %v", v, got, r.Done())
		}
	}
	for _, v := range someInts() {
		var w Writer
		w.Int(v)
		r := NewReader(w.Bytes())
		if got := r.Int(); got != v || r.Done() != nil {
			t.Errorf("%d: %d, %v", v, got, r.Done())
		}
	}
}

// P3.6
func TestReadAndWritten(t *testing.T) {
	chance := rand.New(rand.NewSource(4))
	came := 0
	for range 60000 {
		b := someBytes(chance)
		b = b[:min(len(b), chance.Intn(8))]
		r := NewReader(b)
		var w Writer
		for range 8 {
			tell(&w, ask(r, someStep(chance)))
			if r.Done() == nil {
				came++
				if !bytes.Equal(w.Bytes(), b) {
					t.Fatalf("%x was read, %x is written", b, w.Bytes())
				}
			}
		}
	}
	if came < 1000 {
		t.Errorf("%d were read to their end", came)
	}
}
