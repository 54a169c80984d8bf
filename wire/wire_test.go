package wire

import (
	"bytes"
	"encoding/binary"
	"math"
	"math/rand"
	"strings"
	"testing"
)

// The chapter's first example.
func TestNumbersAsBytes(t *testing.T) {
	for v, want := range map[uint64]string{0: "\x00", 127: "\x7f", 128: "\x80\x01", 300: "\xac\x02", math.MaxUint64: "\xff\xff\xff\xff\xff\xff\xff\xff\xff\x01"} {
		var w Writer
		w.Uint(v)
		if string(w.Bytes()) != want {
			t.Errorf("Uint %d: %x", v, w.Bytes())
		}
	}
	for v, want := range map[int64]string{0: "\x00", -1: "\x01", 1: "\x02", -64: "\x7f", 64: "\x80\x01", math.MinInt64: "\xff\xff\xff\xff\xff\xff\xff\xff\xff\x01"} {
		var w Writer
		w.Int(v)
		if string(w.Bytes()) != want {
			t.Errorf("Int %d: %x", v, w.Bytes())
		}
	}
	var w Writer
	w.Text("ab")
	w.Raw([]byte("ab"))
	w.Text("")
	w.Raw(nil)
	w.Fix32(0x01020304)
	w.Byte(0xff)
	if string(w.Bytes()) != "\x02ab\x02ab\x00\x00\x01\x02\x03\x04\xff" || w.Len() != 13 {
		t.Errorf("%x, %d", w.Bytes(), w.Len())
	}
}

func TestNumbersAsTheLibrarySays(t *testing.T) {
	for _, v := range someUints() {
		var w Writer
		w.Uint(v)
		if want := binary.AppendUvarint(nil, v); !bytes.Equal(w.Bytes(), want) {
			t.Errorf("Uint %d: %x", v, w.Bytes())
		}
		w = Writer{}
		w.Fix32(uint32(v))
		if want := binary.BigEndian.AppendUint32(nil, uint32(v)); !bytes.Equal(w.Bytes(), want) {
			t.Errorf("Fix32 %d: %x", v, w.Bytes())
		}
	}
	for _, v := range someInts() {
		var w Writer
		w.Int(v)
		if want := binary.AppendVarint(nil, v); !bytes.Equal(w.Bytes(), want) {
			t.Errorf("Int %d: %x", v, w.Bytes())
		}
	}
}

func TestLongTexts(t *testing.T) {
	for _, size := range []int{127, 128, 300, 70000} {
		s := strings.Repeat("\xffx", size)[:size]
		var w Writer
		w.Text(s)
		w.Raw([]byte(s))
		want := string(binary.AppendUvarint(nil, uint64(size))) + s
		if string(w.Bytes()) != want+want {
			t.Errorf("a text of %d bytes", size)
		}
	}
}

// The chapter's second example.
func TestBitsAsBytes(t *testing.T) {
	var w Writer
	w.Bits(5, 3)
	if w.Len() != 1 || string(w.Bytes()) != "\xa0" {
		t.Errorf("%x, %d", w.Bytes(), w.Len())
	}
	w.Bits(1, 1)
	if w.Len() != 1 || string(w.Bytes()) != "\xb0" {
		t.Errorf("%x, %d", w.Bytes(), w.Len())
	}
	w.Byte(7)
	if w.Len() != 2 || string(w.Bytes()) != "\xb0\x07" {
		t.Errorf("%x, %d", w.Bytes(), w.Len())
	}
	w.Bits(1, 1)
	if w.Len() != 3 || string(w.Bytes()) != "\xb0\x07\x80" {
		t.Errorf("%x, %d", w.Bytes(), w.Len())
	}
}

// P3.1: the ends of n, and bits of v above them.
func TestHowManyBits(t *testing.T) {
	all := uint64(0x8123456789abcdef)
	for _, c := range []struct {
		n    int
		want string
	}{
		{math.MinInt, ""}, {-1, ""}, {0, ""}, {1, "\x80"}, {4, "\xf0"}, {8, "\xef"}, {9, "\xf7\x80"}, {12, "\xde\xf0"},
		{63, "\x02\x46\x8a\xcf\x13\x57\x9b\xde"}, {64, "\x81\x23\x45\x67\x89\xab\xcd\xef"},
		{65, "\x81\x23\x45\x67\x89\xab\xcd\xef"}, {math.MaxInt, "\x81\x23\x45\x67\x89\xab\xcd\xef"},
	} {
		var w Writer
		w.Bits(all, c.n)
		if string(w.Bytes()) != c.want || w.Len() != len(c.want) {
			t.Errorf("%d bits: %x, %d", c.n, w.Bytes(), w.Len())
		}
	}
}

// No bits begin no byte, and end none.
func TestNoBits(t *testing.T) {
	var w Writer
	w.Byte(1)
	w.Bits(math.MaxUint64, 0)
	w.Bits(math.MaxUint64, -7)
	w.Bits(1, 1)
	w.Bits(math.MaxUint64, 0)
	w.Bits(1, 1)
	if string(w.Bytes()) != "\x01\xc0" {
		t.Errorf("%x", w.Bytes())
	}
}

// Each call but Bits begins with a new byte, and bits do behind it.
func TestNewByteBehindBits(t *testing.T) {
	for name, c := range map[string]struct {
		tell func(w *Writer)
		want string
	}{
		"Byte":  {func(w *Writer) { w.Byte(9) }, "\x09"},
		"Fix32": {func(w *Writer) { w.Fix32(9) }, "\x00\x00\x00\x09"},
		"Uint":  {func(w *Writer) { w.Uint(300) }, "\xac\x02"},
		"Int":   {func(w *Writer) { w.Int(-9) }, "\x11"},
		"Text":  {func(w *Writer) { w.Text("x") }, "\x01x"},
		"Raw":   {func(w *Writer) { w.Raw([]byte("x")) }, "\x01x"},
		"none":  {func(w *Writer) { w.Text("") }, "\x00"},
	} {
		var w Writer
		w.Bits(1, 3)
		c.tell(&w)
		w.Bits(1, 3)
		if string(w.Bytes()) != "\x20"+c.want+"\x20" {
			t.Errorf("%s: %x", name, w.Bytes())
		}
	}
}

// bitByBit is what steps are as bytes, by a text of zeros and ones.
func bitByBit(steps []step) string {
	var all strings.Builder
	row := ""
	for _, s := range steps {
		if s.call == callBits {
			for i := s.n - 1; i >= 0; i-- {
				row += string('0' + byte(s.v>>i&1))
			}
			continue
		}
		all.WriteString(packed(row))
		row = ""
		switch s.call {
		case callByte:
			all.WriteByte(byte(s.v))
		case callFix32:
			all.Write(binary.BigEndian.AppendUint32(nil, uint32(s.v)))
		case callUint:
			all.Write(binary.AppendUvarint(nil, s.v))
		case callInt:
			all.Write(binary.AppendVarint(nil, int64(s.v)))
		case callText, callRaw:
			all.Write(binary.AppendUvarint(nil, uint64(len(s.text))))
			all.WriteString(s.text)
		}
	}
	return all.String() + packed(row)
}

func packed(row string) string {
	out := make([]byte, (len(row)+7)/8)
	for i := range row {
		out[i/8] |= (row[i] - '0') << (7 - i%8)
	}
	return string(out)
}

// P3.1
func TestWriterGoesOn(t *testing.T) {
	chance := rand.New(rand.NewSource(1))
	for range 500 {
		var w Writer
		var steps []step
		for range 30 {
			s := someStep(chance)
			steps = append(steps, s)
			tell(&w, s)
			want := bitByBit(steps)
			if string(w.Bytes()) != want || w.Len() != len(want) {
				t.Fatalf("%v: %x, %d, not %x", steps, w.Bytes(), w.Len(), want)
			}
		}
	}
}

// What is answered is the caller's.
func TestBytesAreTheCallers(t *testing.T) {
	var w Writer
	w.Bits(1, 1)
	b := w.Bytes()
	w.Bits(1, 1)
	w.Byte(5)
	if string(b) != "\x80" {
		t.Errorf("what was answered became %x", b)
	}
	b[0] = 3
	b = append(b, 9, 9, 9)
	if string(w.Bytes()) != "\xc0\x05" {
		t.Errorf("what was written became %x", w.Bytes())
	}
	raw := append(make([]byte, 0, 8), "abc"...)
	w.Raw(raw)
	raw[0] = 'x'
	if string(w.Bytes()) != "\xc0\x05\x03abc" {
		t.Errorf("what was written became %x", w.Bytes())
	}
	w.Byte(1)
	if string(raw[:8]) != "xbc\x00\x00\x00\x00\x00" {
		t.Errorf("what was handed in became %x", raw[:8])
	}
}

// P3.3
func TestNilWriter(t *testing.T) {
	var w *Writer
	for call := range calls {
		tell(w, step{call: call, n: 3, v: 300, text: "ab"})
	}
	if w.Len() != 0 || len(w.Bytes()) != 0 {
		t.Errorf("%d, %x", w.Len(), w.Bytes())
	}
	var zero Writer
	if zero.Len() != 0 || len(zero.Bytes()) != 0 {
		t.Errorf("%d, %x", zero.Len(), zero.Bytes())
	}
}
