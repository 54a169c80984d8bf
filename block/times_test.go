package block

import (
	"bytes"
	"fmt"
	"math"
	"math/big"
	"strings"
	"testing"

	"weir/api"
	"weir/expect"
	"weir/wire"
)

// timeClasses is the document's row of classes, told anew: how a turn begins, from where to where it goes, in how many bits.
var timeClasses = []struct {
	head        string
	least, most int64
	size        int
}{
	{"0", 0, 0, 0},
	{"10", -63, 64, 7},
	{"110", -255, 256, 9},
	{"1110", -2047, 2048, 12},
	{"1111", math.MinInt64, math.MaxInt64, 64},
}

// round is a whole number as 64 bits have it, with its sign.
func round(n *big.Int) int64 {
	return int64(new(big.Int).And(n, new(big.Int).SetUint64(math.MaxUint64)).Uint64())
}

func difference(a, b int64) *big.Int { return new(big.Int).Sub(big.NewInt(a), big.NewInt(b)) }

// turnDigits is a turn as the document writes it.
func turnDigits(d int64) string {
	for _, c := range timeClasses[:4] {
		if c.least <= d && d <= c.most {
			if c.size == 0 {
				return c.head
			}
			return c.head + fmt.Sprintf("%0*b", c.size, d-c.least)
		}
	}
	return "1111" + fmt.Sprintf("%064b", uint64(d))
}

// packedTimes is what Times writes, told anew, with whole numbers of any size and digits.
func packedTimes(l []int64) []byte {
	b := unsigned(uint64(len(l)))
	if len(l) > 0 {
		b = append(b, signed(l[0])...)
	}
	if len(l) > 1 {
		b = append(b, unsigned(difference(l[1], l[0]).Uint64())...)
	}
	var s strings.Builder
	for i := 2; i < len(l); i++ {
		turn := new(big.Int).Sub(difference(l[i], l[i-1]), difference(l[i-1], l[i-2]))
		s.WriteString(turnDigits(round(turn)))
	}
	return append(b, undigits(s.String())...)
}

// readTimes is what UnTimes tells of bytes, told anew.
func readTimes(t *testing.T, b []byte) told[int64] {
	t.Helper()
	r := wire.NewReader(b)
	n, first, second := int(r.Uint(api.MaxBlock)), int64(0), uint64(0)
	if n > 0 {
		first = r.Int()
	}
	if n > 1 {
		second = r.Uint(math.MaxUint64)
	}
	if r.Fault() != nil {
		return faulty[int64](t, r.Fault())
	}
	l := []int64{first, int64(uint64(first) + second)}[:min(n, 2)]
	row, used, canonical := digits(b[r.At():]), 0, true
	for len(l) < n {
		d, size, ok := readTurn(row[used:])
		if !ok {
			return wrong[int64](api.ErrShort, len(b))
		}
		canonical = canonical && turnDigits(d) == row[used:used+size]
		used += size
		step := new(big.Int).Add(difference(l[len(l)-1], l[len(l)-2]), big.NewInt(d))
		l = append(l, round(step.Add(step, big.NewInt(l[len(l)-1]))))
	}
	if e, pos := behind(b, r.At(), used); e != 0 {
		return wrong[int64](e, pos)
	}
	for i := 1; i < n; i++ {
		canonical = canonical && l[i-1] < l[i]
	}
	if !canonical {
		return wrong[int64](api.ErrBlock, expect.None)
	}
	return fine(l)
}

// readTurn is the turn with which digits begin, and how many these are.
func readTurn(row string) (d int64, size int, ok bool) {
	for i, c := range timeClasses {
		if !strings.HasPrefix(row, c.head) {
			continue
		}
		size = len(c.head) + c.size
		if len(row) < size {
			return 0, 0, false
		}
		v, _ := new(big.Int).SetString("0"+row[len(c.head):size], 2)
		if i < 4 {
			v.Add(v, big.NewInt(c.least))
		}
		return round(v), size, true
	}
	return 0, 0, false
}

func ofTimes() kind[int64] { return kind[int64]{Times, UnTimes, packedTimes, readTimes, someTimes} }

func TestTimesExamples(t *testing.T) {
	for _, c := range []struct {
		l    []int64
		want string
	}{
		{nil, "00"},
		{[]int64{}, "00"},
		{[]int64{5}, "01 0a"},
		{[]int64{-1}, "01 01"},
		{[]int64{0, 10, 20, 30}, "04 00 0a 00"},
		{[]int64{0, 10, 21}, "03 00 0a a0 00"},
		{[]int64{math.MinInt64, math.MaxInt64}, "02 ffffffffffffffffff01 ffffffffffffffffff01"},
		{[]int64{math.MaxInt64 - 1, math.MaxInt64}, "02 fcffffffffffffffff01 01"},
		{[]int64{0, 10, 10 + 10 - 9}, "03 00 0a 9b 00"},                     // -9 + 63 in 7 bits: 0110110
		{[]int64{0, 1000, 2000 - 63}, "03 00 e807 80 00"},                   // -63
		{[]int64{0, 1000, 2000 + 64}, "03 00 e807 bf 80"},                   // 64
		{[]int64{0, 1000, 2000 - 64}, "03 00 e807 cb f0"},                   // -64: 110, 191 in 9 bits
		{[]int64{0, 1000, 2000 + 65}, "03 00 e807 d4 00"},                   // 65: 110, 320 in 9 bits
		{[]int64{0, 1000, 2000 - 255}, "03 00 e807 c0 00"},                  // -255
		{[]int64{0, 1000, 2000 + 256}, "03 00 e807 df f0"},                  // 256
		{[]int64{0, 1000, 2000 - 256}, "03 00 e807 e6 ff"},                  // -256: 1110, 1791 in 12 bits
		{[]int64{0, 1000, 2000 + 257}, "03 00 e807 e9 00"},                  // 257: 1110, 2304 in 12 bits
		{[]int64{0, 4096, 2*4096 - 2047}, "03 00 8020 e0 00"},               // -2047
		{[]int64{0, 4096, 2*4096 + 2048}, "03 00 8020 ef ff"},               // 2048
		{[]int64{0, 4096, 2*4096 - 2048}, "03 00 8020 ffffffffffffff80 00"}, // -2048 in 64 bits
		{[]int64{0, 4096, 2*4096 + 2049}, "03 00 8020 f000000000000080 10"},
	} {
		b, err := Times(c.l)
		want := unhex(c.want)
		if err != nil || !bytes.Equal(b, want) {
			t.Errorf("%v: % x, %v", c.l, b, err)
		}
		l, err := UnTimes(want)
		holds(t, c.want, l, err, fine(c.l))
	}
}

func TestTimesRange(t *testing.T) {
	for _, l := range [][]int64{
		{0, 0}, {1, 0}, {0, 1, 1}, {0, 1, 0}, {0, 0, 1}, {0, 1, 2, 3, 4, 4}, {0, 1, 2, 3, 3, 4},
		{math.MaxInt64, math.MinInt64}, {math.MinInt64, math.MinInt64}, {0, math.MaxInt64, math.MinInt64},
	} {
		b, err := Times(l)
		holds(t, l, b, err, wrong[byte](api.ErrRange, expect.None))
	}
}

func TestTimesLong(t *testing.T) {
	l := make([]int64, api.MaxBlock+1)
	b, err := Times(l)
	holds(t, "too many", b, err, wrong[byte](api.ErrLong, expect.None))
	b, err = Times(l[:api.MaxBlock])
	holds(t, "of one time", b, err, wrong[byte](api.ErrRange, expect.None))
	for i := range l {
		l[i] = int64(i) * int64(i)
	}
	b, err = Times(l)
	holds(t, "too many that rise", b, err, wrong[byte](api.ErrLong, expect.None))
	b, err = Times(l[:api.MaxBlock])
	if err != nil || !bytes.Equal(b, packedTimes(l[:api.MaxBlock])) {
		t.Errorf("as many as may be: %d bytes, %v", len(b), err)
	}
	back, err := UnTimes(b)
	holds(t, "as many as may be", back, err, fine(l[:api.MaxBlock]))
}

// Each turn about the edges of the classes, and of 64 bits.
func TestTimesTurns(t *testing.T) {
	for _, edge := range []int64{0, -63, 64, -255, 256, -2047, 2048, 1 << 31, -1 << 31, 1 << 40, -1 << 40} {
		for d := edge - 3; d <= edge+3; d++ {
			l := []int64{-1 << 62, -1<<62 + 1<<41, -1<<62 + 1<<42 + d, -1<<62 + 3<<41 + 2*d}
			ofTimes().writes(t, l)
		}
	}
	ends := []int64{math.MinInt64, math.MinInt64 + 1, -1 << 62, -1, 0, 1, 1 << 62, math.MaxInt64 - 1, math.MaxInt64}
	for set := range 1 << len(ends) {
		var l []int64
		for i, end := range ends {
			if set>>i&1 == 1 {
				l = append(l, end)
			}
		}
		ofTimes().writes(t, l)
	}
}

func TestTimesComeBack(t *testing.T) { ofTimes().comesBack(t) }

func TestUnTimesFaults(t *testing.T) {
	ofTimes().tells(t, []answer{
		{"", api.ErrShort, 0},
		{"80", api.ErrShort, 1},
		{"80 00", api.ErrForm, 1},
		{"81 80 40", api.ErrRange, 0},                                      // MaxBlock + 1
		{"80 80 40", api.ErrShort, 3},                                      // MaxBlock
		{"ff ff ff ff ff ff ff ff ff 01", api.ErrRange, 0},                 // 2^64 - 1
		{"ff ff ff ff ff ff ff ff ff 02", api.ErrForm, 9},                  // more
		{"00 00", api.ErrMore, 1},                                          // behind none
		{"01", api.ErrShort, 1},                                            // no first one
		{"01 80 00", api.ErrForm, 2},                                       // too long a first one
		{"01 0a 00", api.ErrMore, 2},                                       // behind one
		{"02 00", api.ErrShort, 2},                                         // no second one
		{"02 00 81 00", api.ErrForm, 3},                                    // too long a second one
		{"02 00 00", api.ErrBlock, expect.None},                            // both the same
		{"02 02 ff ff ff ff ff ff ff ff ff 01", api.ErrBlock, expect.None}, // the second is below the first
		{"02 00 80 80 80 80 80 80 80 80 80 01", api.ErrBlock, expect.None}, // 2^63 ahead goes round
		{"02 00 ff ff ff ff ff ff ff ff 7f", 0, expect.None},               // 2^63 - 1 ahead does not
		{"02 00 0a 00", api.ErrMore, 3},                                    // behind two
		{"03 00 0a", api.ErrShort, 3},                                      // no turn
		{"03 00 0a 01", api.ErrForm, 3},                                    // something behind the turn
		{"03 00 0a 40", api.ErrForm, 3},                                    // likewise
		{"03 00 0a 00 00", api.ErrMore, 4},                                 // a byte behind the turn
		{"03 00 0a 01 00", api.ErrForm, 3},                                 // both
		{"03 00 0a a0", api.ErrShort, 4},                                   // half a turn
		{"03 00 0a 9f 80", api.ErrBlock, expect.None},                      // 10 and 0, which is told by 0
		{"03 00 64 c0 f0", api.ErrBlock, expect.None},                      // a turn back
		{"03 00 e8 07 c0 f0", 0, expect.None},                              // one that is not as far
		{"03 00 0a cf f0", api.ErrBlock, expect.None},                      // 110 and 0
		{"03 00 0a e7 ff", api.ErrBlock, expect.None},                      // 1110 and 0
		{"03 00 0a f0 00 00 00 00 00 00 00 00", api.ErrBlock, expect.None}, // 1111 and 0
		{"03 00 0a f0 00 00 00 00 00 00 08 00", api.ErrBlock, expect.None}, // 1111 and 128
		{"03 00 0a f0 00 00 00 00 00 00 80 00", api.ErrBlock, expect.None}, // 1111 and 2048
		{"03 00 0a f0 00 00 00 00 00 00 80 10", 0, expect.None},            // 1111 and 2049
		{"03 00 0a f0 00 00 00 00 00 00 80 11", api.ErrForm, 11},           // something behind it
		{"03 00 0a f0 00 00 00 00 00 00 80", api.ErrShort, 11},             // half of it
		{"03 00 0a 9a 80", api.ErrBlock, expect.None},                      // the third is the second
		{"03 00 0a 9a 00", api.ErrBlock, expect.None},                      // the third is below the second
		{"03 00 0a 9a 00 00", api.ErrMore, 5},                              // that, and a byte behind it
	})
}

func TestUnTimesOfAnyBytes(t *testing.T) {
	k := ofTimes()
	k.anyBytes(t, func(b []byte) bool { return k.reads(t, b) })
}

func TestUnTimesOfShortBytes(t *testing.T) {
	ofTimes().endsAtOnce(t, append(unsigned(api.MaxBlock), 0, 1))
}

func TestTimesMemory(t *testing.T) { ofTimes().sharesNothing(t, []int64{1, 5, 30, 2000}, -7) }
