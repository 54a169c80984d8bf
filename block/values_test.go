package block

import (
	"bytes"
	"fmt"
	"math"
	"math/big"
	"strings"
	"testing"

	"weir/api"
	"weir/expect"
	"weir/wire"
)

func number(n int64) api.Value { return api.Value{Kind: api.Int, N: n} }

var (
	over = api.Value{Kind: api.Over}
	void = api.Value{Kind: api.Void}
)

// intDigits is an Int as the document writes it, behind another one.
func intDigits(n, last int64) string {
	d := big.NewInt(round(difference(n, last)))
	z := new(big.Int).Lsh(d, 1)
	if d.Sign() < 0 {
		z.Neg(z).Sub(z, big.NewInt(1))
	}
	s := z.Text(2)
	return "10" + fmt.Sprintf("%06b", len(s)-1) + s
}

// packedValues is what Values writes, told anew, with digits.
func packedValues(l []api.Value) []byte {
	var s strings.Builder
	for i, v := range l {
		last := int64(0)
		for _, w := range l[:i] {
			if w.Kind == api.Int {
				last = w.N
			}
		}
		switch {
		case i > 0 && v == l[i-1], i == 0 && v == number(0):
			s.WriteString("0")
		case v == over:
			s.WriteString("110")
		case v == void:
			s.WriteString("111")
		default:
			s.WriteString(intDigits(v.N, last))
		}
	}
	return append(unsigned(uint64(len(l))), undigits(s.String())...)
}

// readValue is the value with which digits begin behind one and the last Int, and how many these are.
func readValue(row string, ahead api.Value, last int64) (v api.Value, size int, ok bool) {
	for head, v := range map[string]api.Value{"0": ahead, "110": over, "111": void} {
		if strings.HasPrefix(row, head) {
			return v, len(head), true
		}
	}
	if !strings.HasPrefix(row, "10") || len(row) < 8 {
		return api.Value{}, 0, false
	}
	n, _ := new(big.Int).SetString(row[2:8], 2)
	size = 9 + int(n.Int64())
	if len(row) < size {
		return api.Value{}, 0, false
	}
	z, _ := new(big.Int).SetString(row[8:size], 2)
	half := new(big.Int).Rsh(z, 1)
	if z.Bit(0) == 1 {
		half.Not(half)
	}
	return number(round(half.Add(half, big.NewInt(last)))), size, true
}

// readValues is what UnValues tells of bytes, told anew.
func readValues(t *testing.T, b []byte) told[api.Value] {
	t.Helper()
	r := wire.NewReader(b)
	n := int(r.Uint(api.MaxBlock))
	if r.Fault() != nil {
		return faulty[api.Value](t, r.Fault())
	}
	row, used := digits(b[r.At():]), 0
	var l []api.Value
	ahead, last := number(0), int64(0)
	for len(l) < n {
		v, size, ok := readValue(row[used:], ahead, last)
		if !ok {
			return wrong[api.Value](api.ErrShort, len(b))
		}
		l, ahead, used = append(l, v), v, used+size
		if v.Kind == api.Int {
			last = v.N
		}
	}
	if e, pos := behind(b, r.At(), used); e != 0 {
		return wrong[api.Value](e, pos)
	}
	if !bytes.Equal(packedValues(l), b) {
		return wrong[api.Value](api.ErrBlock, expect.None)
	}
	return fine(l)
}

func ofValues() kind[api.Value] {
	return kind[api.Value]{Values, UnValues, packedValues, readValues, someValues}
}

func TestValuesExamples(t *testing.T) {
	for _, c := range []struct {
		l    []api.Value
		want string
	}{
		{nil, "00"},
		{[]api.Value{}, "00"},
		{[]api.Value{number(0), number(0)}, "02 00"},
		{[]api.Value{number(1)}, "01 81 80"},
		{[]api.Value{number(-1)}, "01 80 80"},                    // z is 1, in one bit
		{[]api.Value{over}, "01 c0"},                             // 1, 1, 0
		{[]api.Value{void}, "01 e0"},                             // 1, 1, 1
		{[]api.Value{over, over}, "02 c0"},                       // the same again
		{[]api.Value{over, void}, "02 dc"},                       // 110 111
		{[]api.Value{over, number(0)}, "02 d0 00"},               // 110 10 000000 0: z is 0, in one bit
		{[]api.Value{number(1), over, number(1)}, "03 81 b4 00"}, // 10 000001 10, 110, 10 000000 0
		{[]api.Value{number(1), void, number(2)}, "03 81 bc 0c"},
		{[]api.Value{number(math.MaxInt64)}, "01 bf ff ff ff ff ff ff ff fe"},
		{[]api.Value{number(math.MinInt64)}, "01 bf ff ff ff ff ff ff ff ff"},
		{[]api.Value{number(math.MaxInt64), number(math.MinInt64)}, "02 bf ff ff ff ff ff ff ff fe 81 80"}, // it goes round: 1
	} {
		want := unhex(c.want)
		b, err := Values(c.l)
		if err != nil || !bytes.Equal(b, want) {
			t.Errorf("%v: % x, not %s, %v", c.l, b, c.want, err)
		}
		l, err := UnValues(want)
		holds(t, c.want, l, err, fine(c.l))
	}
}

func TestValuesRange(t *testing.T) {
	for _, odd := range []api.Value{
		{Kind: 3}, {Kind: 255}, {Kind: 3, N: 1}, {Kind: api.Over, N: 1}, {Kind: api.Void, N: -1}, {Kind: api.Over, N: math.MinInt64},
	} {
		for _, l := range [][]api.Value{{odd}, {number(0), odd}, {odd, number(0)}, {over, odd, void}, {odd, odd}} {
			b, err := Values(l)
			holds(t, l, b, err, wrong[byte](api.ErrRange, expect.None))
		}
	}
}

func TestValuesLong(t *testing.T) {
	l := make([]api.Value, api.MaxBlock+1)
	b, err := Values(l)
	holds(t, "too many", b, err, wrong[byte](api.ErrLong, expect.None))
	l[0].Kind = 9
	b, err = Values(l)
	holds(t, "too many, one that is none", b, err, wrong[byte](api.ErrLong, expect.None))
	b, err = Values(l[:api.MaxBlock])
	holds(t, "one that is none", b, err, wrong[byte](api.ErrRange, expect.None))
	l = l[1:]
	for i := range l {
		l[i].N = int64(i) << 20
	}
	b, err = Values(l)
	if err != nil {
		t.Fatal(err)
	}
	back, err := UnValues(b)
	holds(t, "as many as may be", back, err, fine(l))
	for i := range l {
		l[i].N = 0
	}
	b, err = Values(l)
	if want := append(unsigned(api.MaxBlock), make([]byte, api.MaxBlock/8)...); err != nil || !bytes.Equal(b, want) {
		t.Errorf("as many zeros as may be: %d bytes, %v", len(b), err)
	}
}

// Differences of each number of bits, both ways, and about the ends.
func TestValuesSteps(t *testing.T) {
	for size := range 65 {
		for _, d := range []int64{1<<size - 1, 1 << size, 1<<size + 1, -1 << size, -1<<size + 1, -1<<size - 1} {
			for _, from := range []int64{0, 5, -1, math.MaxInt64, math.MinInt64} {
				ofValues().writes(t, []api.Value{number(from), over, number(from + d), void, number(from + d), number(from)})
			}
		}
	}
}

func TestValuesComeBack(t *testing.T) { ofValues().comesBack(t) }

func TestUnValuesFaults(t *testing.T) {
	ofValues().tells(t, []answer{
		{"", api.ErrShort, 0},
		{"80", api.ErrShort, 1},
		{"80 00", api.ErrForm, 1},
		{"81 80 40", api.ErrRange, 0},
		{"80 80 40", api.ErrShort, 3},
		{"00 00", api.ErrMore, 1},
		{"01", api.ErrShort, 1},
		{"09 00", api.ErrShort, 2},
		{"08 00", 0, expect.None},
		{"08 00 00", api.ErrMore, 2},
		{"01 00 00", api.ErrMore, 2},
		{"01 40", api.ErrForm, 1},
		{"01 01", api.ErrForm, 1},
		{"01 01 00", api.ErrForm, 1},
		{"01 81", api.ErrShort, 2},
		{"01 bf ff ff ff ff ff ff ff", api.ErrShort, 9},
		{"01 81 a0", api.ErrForm, 2},
		{"01 80 00", api.ErrBlock, expect.None}, // the same as the one ahead, told as a step of 0
		{"01 81 40", api.ErrBlock, expect.None}, // one in two bits
		{"01 82 40", api.ErrBlock, expect.None}, // two in three bits
		{"01 bf 7f ff ff ff ff ff ff ff", api.ErrBlock, expect.None},
		{"02 d0 00", 0, expect.None},
		{"02 d0 08", api.ErrForm, 2},
		{"02 d8", api.ErrBlock, expect.None},       // Over again, told as itself
		{"02 fc", api.ErrBlock, expect.None},       // Void again
		{"02 fc 00", api.ErrMore, 2},               // that, and a byte behind it
		{"03 d0 08 00", api.ErrBlock, expect.None}, // Over, 0, and 0 as a step of 0
	})
}

func TestUnValuesOfAnyBytes(t *testing.T) {
	k := ofValues()
	k.anyBytes(t, func(b []byte) bool { return k.reads(t, b) })
}

func TestUnValuesOfShortBytes(t *testing.T) { ofValues().endsAtOnce(t, unsigned(api.MaxBlock)) }

func TestValuesMemory(t *testing.T) {
	ofValues().sharesNothing(t, []api.Value{number(4), over, number(1 << 40), number(1 << 40)}, number(-7))
}
