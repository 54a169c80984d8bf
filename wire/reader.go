package wire

import (
	"bytes"

	"weir/api"
	"weir/fault"
)

// cursor is a place among bytes: at of them were read, the last one but for its lowest rest bits.
type cursor struct {
	bytes []byte
	at    int
	rest  int
}

// left is how many bytes stand behind those that were read.
func (c *cursor) left() int { return len(c.bytes) - c.at }

// pass goes on behind the next n bytes, whatever bits have begun.
func (c *cursor) pass(n int) {
	c.at += n
	c.rest = 0
}

// ragged tells whether something that is not 0 is left of a byte that bits have begun.
func (c *cursor) ragged() bool {
	return c.rest > 0 && lowest(uint64(c.bytes[c.at-1]), c.rest) != 0
}

// Reader goes through bytes.
type Reader struct {
	cursor
	fault error
}

// NewReader stands at the first byte.
func NewReader(b []byte) *Reader { return &Reader{cursor: cursor{bytes: bytes.Clone(b)}} }

// Byte reads a byte.
func (r *Reader) Byte() byte {
	if !r.starts() || !r.has(1) {
		return 0
	}
	v := r.bytes[r.at]
	r.pass(1)
	return v
}

// Fix32 reads four bytes.
func (r *Reader) Fix32() uint32 {
	if !r.starts() || !r.has(4) {
		return 0
	}
	v := unfour(r.bytes[r.at:])
	r.pass(4)
	return v
}

// Uint reads a number without sign.
func (r *Reader) Uint(most uint64) uint64 {
	v, size := r.number()
	if v > most {
		r.fail(r.at, api.ErrRange)
		return 0
	}
	if size > 0 {
		r.pass(size)
	}
	return v
}

// Int reads a number with its sign.
func (r *Reader) Int() int64 {
	v := r.Uint(1<<64 - 1)
	return int64(v>>1) ^ -int64(v&1)
}

// Text reads a text.
func (r *Reader) Text(most int) string { return string(r.piece(most)) }

// Raw reads bytes.
func (r *Reader) Raw(most int) []byte { return bytes.Clone(r.piece(most)) }

// Bits reads bits.
func (r *Reader) Bits(n int) uint64 {
	if !r.sound() {
		return 0
	}
	n = within(n)
	if n > r.rest && !r.has((n-r.rest+7)/8) {
		return 0
	}
	v := uint64(0)
	for n > 0 {
		if r.rest == 0 {
			r.pass(1)
			r.rest = 8
		}
		now := min(n, r.rest)
		n -= now
		r.rest -= now
		v = v<<now | uint64(lowest(uint64(r.bytes[r.at-1]>>r.rest), now))
	}
	return v
}

// Fail makes an error the fault, if there is none.
func (r *Reader) Fail(err error) {
	if r.sound() {
		r.fault = err
	}
}

// At is how many bytes were read.
func (r *Reader) At() int {
	if r == nil {
		return 0
	}
	return r.at
}

// Left is how many are left.
func (r *Reader) Left() int {
	if r == nil {
		return 0
	}
	return r.left()
}

// Fault is the first error.
func (r *Reader) Fault() error {
	if r == nil {
		return fault.New(api.ErrNil)
	}
	return r.fault
}

// Done is that, or one where bytes are left.
func (r *Reader) Done() error {
	if !r.sound() {
		return r.Fault()
	}
	if r.ragged() {
		return fault.At(r.at-1, api.ErrForm)
	}
	if r.left() > 0 {
		return fault.At(r.at, api.ErrMore)
	}
	return nil
}

// sound tells whether there is a Reader, without a fault.
func (r *Reader) sound() bool { return r != nil && r.fault == nil }

func (r *Reader) fail(pos int, e api.Errno) { r.fault = fault.At(pos, e) }

// starts tells whether what is no bits may be read here.
func (r *Reader) starts() bool {
	if !r.sound() {
		return false
	}
	if r.ragged() {
		r.fail(r.at-1, api.ErrForm)
		return false
	}
	return true
}

// has tells whether n bytes are left.
func (r *Reader) has(n int) bool {
	if r.left() < n {
		r.fail(len(r.bytes), api.ErrShort)
		return false
	}
	return true
}

// number is the number that stands next, and how many bytes it has: none with
// a fault. It is not passed, for the caller may find that it says too much.
func (r *Reader) number() (v uint64, size int) {
	if !r.starts() {
		return 0, 0
	}
	for {
		if !r.has(size + 1) {
			return 0, 0
		}
		b := r.bytes[r.at+size]
		if size == 9 && b > 1 || size > 0 && b == 0 {
			r.fail(r.at+size, api.ErrForm)
			return 0, 0
		}
		v |= uint64(b&(1<<7-1)) << (7 * size)
		size++
		if b < 1<<7 {
			return v, size
		}
	}
}

// piece is what stands next behind its length; it lies in the Reader's own bytes.
func (r *Reader) piece(most int) []byte {
	v, size := r.number()
	if size == 0 {
		return nil
	}
	if most < 0 || v > uint64(most) {
		r.fail(r.at, api.ErrLong)
		return nil
	}
	if v > uint64(r.left()-size) {
		r.fail(len(r.bytes), api.ErrShort)
		return nil
	}
	from := r.at + size
	r.pass(size + int(v))
	return r.bytes[from:r.at]
}
