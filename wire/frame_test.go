package wire

import (
	"bytes"
	"encoding/binary"
	"hash/crc32"
	"math"
	"math/rand"
	"testing"

	"weir/api"
	"weir/expect"
)

// P3.4
func TestCrc(t *testing.T) {
	if v := Crc([]byte("123456789")); v != 0xcbf43926 {
		t.Errorf("%x", v)
	}
	if Crc(nil) != 0 || Crc([]byte{}) != 0 {
		t.Error("of nothing")
	}
	chance := rand.New(rand.NewSource(5))
	for i := range 2000 {
		b := make([]byte, i%300)
		chance.Read(b)
		if Crc(b) != crc32.ChecksumIEEE(b) {
			t.Fatalf("%x: %x", b, Crc(b))
		}
	}
	for i := range 256 {
		if b := []byte{byte(i)}; Crc(b) != crc32.ChecksumIEEE(b) {
			t.Errorf("%x: %x", b, Crc(b))
		}
	}
}

// framed is a frame, reckoned by the library.
func framed(kind byte, number uint64, size uint32, b []byte) []byte {
	f := []byte{kind}
	f = binary.BigEndian.AppendUint32(f, size)
	f = binary.BigEndian.AppendUint64(f, number)
	f = binary.BigEndian.AppendUint32(f, crc32.ChecksumIEEE(f))
	f = append(f, b...)
	return binary.BigEndian.AppendUint32(f, crc32.ChecksumIEEE(f))
}

// opens holds Open against a frame that is whole.
func opens(t *testing.T, b []byte, kind byte, number uint64, in []byte) {
	t.Helper()
	k, n, got, size, err := Open(b)
	if k != kind || n != number || !bytes.Equal(got, in) || size != 21+len(in) || err != nil {
		t.Errorf("Open: %d, %d, %d bytes, %d, %v", k, n, len(got), size, err)
	}
}

// shut holds Open against an error.
func shut(t *testing.T, what string, b []byte, e api.Errno) {
	t.Helper()
	k, n, got, size, err := Open(b)
	if k != 0 || n != 0 || len(got) != 0 || size != 0 {
		t.Errorf("%s: %d, %d, %x, %d beside an error", what, k, n, got, size)
	}
	fails(t, what, err, e, expect.None)
}

// P3.4
func TestSeal(t *testing.T) {
	for _, in := range []string{"", "x", "123456789", "\x00\x00\x00"} {
		for _, kind := range []byte{0, 1, 2, 255} {
			for _, number := range []uint64{0, 7, 1 << 32, 0x0102030405060708, math.MaxUint64} {
				f, err := Seal(kind, number, []byte(in))
				if !bytes.Equal(f, framed(kind, number, uint32(len(in)), []byte(in))) || err != nil {
					t.Errorf("%q: %x, %v", in, f, err)
				}
				opens(t, f, kind, number, []byte(in))
			}
		}
	}
}

// P3.4: the greatest frame, and one that is too great.
func TestGreatestFrame(t *testing.T) {
	b := bytes.Repeat([]byte("weir"), api.MaxFrame/4+1)
	f, err := Seal(3, 1, b[:api.MaxFrame])
	if len(f) != api.MaxFrame+21 || err != nil {
		t.Fatalf("%d, %v", len(f), err)
	}
	opens(t, f, 3, 1, b[:api.MaxFrame])
	f, err = Seal(3, 1, b[:api.MaxFrame+1])
	if f != nil {
		t.Errorf("%d bytes beside an error", len(f))
	}
	fails(t, "too great", err, api.ErrLong, expect.None)
}

// P3.4: what is told first.
func TestOpenFaults(t *testing.T) {
	whole := framed(2, 7, 1, []byte("x"))
	shut(t, "nil", nil, api.ErrShort)
	for n := range whole {
		shut(t, "a beginning", whole[:n], api.ErrShort)
	}
	turned := bytes.Clone(whole)
	turned[3] ^= 1
	shut(t, "16 bytes, another sum", turned[:16], api.ErrShort)
	shut(t, "17 bytes, another sum", turned[:17], api.ErrSum)
	shut(t, "another sum", turned, api.ErrSum)
	great := framed(2, 7, api.MaxFrame+1, []byte("x"))
	shut(t, "too long", great, api.ErrLong)
	great = framed(2, 7, math.MaxUint32, []byte("x"))
	shut(t, "longest", great, api.ErrLong)
	great[0]++
	shut(t, "too long, another sum", great, api.ErrSum)
	shut(t, "the longest that may be, cut", framed(2, 7, api.MaxFrame, []byte("x")), api.ErrShort)
	last := bytes.Clone(whole)
	last[len(last)-1] ^= 1
	shut(t, "another second sum", last, api.ErrSum)
	shut(t, "another second sum, cut", last[:len(last)-1], api.ErrShort)
}

// P3.7
func TestTurnedFrames(t *testing.T) {
	for _, in := range []string{"", "x", "some bytes of a frame"} {
		whole, _ := Seal(2, 1<<40+7, []byte(in))
		for i := range whole {
			for by := 1; by < 256; by++ {
				turned := bytes.Clone(whole)
				turned[i] ^= byte(by)
				if _, _, _, _, err := Open(turned); err == nil {
					t.Errorf("byte %d turned by %x: no error", i, by)
				}
			}
			if _, _, _, _, err := Open(whole[:i]); err == nil {
				t.Errorf("%d bytes: no error", i)
			}
		}
		for _, more := range []string{"\x00", "x", string(whole)} {
			opens(t, append(bytes.Clone(whole), more...), 2, 1<<40+7, []byte(in))
		}
	}
}

func TestFramesAreTheCallers(t *testing.T) {
	in := append(make([]byte, 0, 40), "abc"...)
	f, _ := Seal(1, 2, in)
	if !bytes.Equal(in[:40], append([]byte("abc"), make([]byte, 37)...)) {
		t.Errorf("Seal changes what is handed in: %x", in[:40])
	}
	in[0] = 'x'
	opens(t, f, 1, 2, []byte("abc"))
	kept := bytes.Clone(f)
	_, _, got, _, _ := Open(f)
	got[0] = 'y'
	got = append(got, 1, 2, 3, 4)
	if !bytes.Equal(f, kept) || len(got) != 7 {
		t.Errorf("what Open answers lies in what it was handed")
	}
}
