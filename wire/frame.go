package wire

import (
	"bytes"

	"weir/api"
	"weir/fault"
)

// A frame's head is its kind, its length, its number, and the sum of these.
const (
	summed   = 1 + 4 + 8
	headSize = summed + sumSize
	sumSize  = 4
)

// allOnes is what a sum begins with, and is turned by at its end.
const allOnes = 0xffffffff

// sums is what the polynomial makes of each half of a byte.
var sums = [16]uint32{
	0x00000000, 0x1db71064, 0x3b6e20c8, 0x26d930ac, 0x76dc4190, 0x6b6b51f4, 0x4db26158, 0x5005713c,
	0xedb88320, 0xf00f9344, 0xd6d6a3e8, 0xcb61b38c, 0x9b64c2b0, 0x86d3d2d4, 0xa00ae278, 0xbdbdf21c,
}

// Crc is the CRC-32 of bytes.
func Crc(b []byte) uint32 {
	sum := uint32(allOnes)
	for _, v := range b {
		sum ^= uint32(v)
		sum = sum>>4 ^ sums[sum&15]
		sum = sum>>4 ^ sums[sum&15]
	}
	return sum ^ allOnes
}

// Seal puts bytes into a frame.
func Seal(kind byte, number uint64, b []byte) ([]byte, error) {
	if len(b) > api.MaxFrame {
		return nil, fault.New(api.ErrLong)
	}
	frame := make([]byte, 0, headSize+len(b)+sumSize)
	frame = append(frame, kind)
	frame = append(frame, four(uint32(len(b)))...)
	frame = append(frame, four(uint32(number>>32))...)
	frame = append(frame, four(uint32(number))...)
	frame = append(frame, four(Crc(frame))...)
	frame = append(frame, b...)
	return append(frame, four(Crc(frame))...), nil
}

// Open reads the frame at the beginning of bytes, and how many bytes it has.
func Open(b []byte) (byte, uint64, []byte, int, error) {
	end, e := measure(b)
	if e != 0 {
		return 0, 0, nil, 0, fault.New(e)
	}
	number := uint64(unfour(b[5:]))<<32 | uint64(unfour(b[9:]))
	return b[0], number, bytes.Clone(b[headSize:end]), end + sumSize, nil
}

// measure is where the bytes of the frame end with which b begins, if it is whole.
func measure(b []byte) (int, api.Errno) {
	if len(b) < headSize {
		return 0, api.ErrShort
	}
	if !fits(b, summed) {
		return 0, api.ErrSum
	}
	size := unfour(b[1:])
	if size > api.MaxFrame {
		return 0, api.ErrLong
	}
	end := headSize + int(size)
	if len(b) < end+sumSize {
		return 0, api.ErrShort
	}
	if !fits(b, end) {
		return 0, api.ErrSum
	}
	return end, 0
}

// fits tells whether behind the first n bytes stands their sum.
func fits(b []byte, n int) bool { return unfour(b[n:]) == Crc(b[:n]) }
