package block

import (
	"bytes"
	"fmt"
	"math"
	"math/rand"
	"testing"

	"weir/api"
	"weir/expect"
	"weir/wire"
)

func sample(t int64, v api.Value) api.Sample { return api.Sample{Time: t, Value: v} }

// raw is rows of bytes, each with its length ahead.
func raw(rows ...[]byte) []byte {
	var b []byte
	for _, row := range rows {
		b = append(append(b, unsigned(uint64(len(row)))...), row...)
	}
	return b
}

// packed is what Pack writes, told anew.
func packed(l []api.Sample) []byte {
	var times []int64
	var values []api.Value
	for _, s := range l {
		times, values = append(times, s.Time), append(values, s.Value)
	}
	return raw(packedTimes(times), packedValues(values))
}

// readSamples is what Unpack tells of bytes, told anew.
func readSamples(t *testing.T, b []byte) told[api.Sample] {
	t.Helper()
	r := wire.NewReader(b)
	first, second := r.Raw(api.MaxFrame), r.Raw(api.MaxFrame)
	if err := r.Done(); err != nil {
		return faulty[api.Sample](t, err)
	}
	times, values := readTimes(t, first), readValues(t, second)
	switch {
	case times.e != 0:
		return wrong[api.Sample](times.e, times.pos)
	case values.e != 0:
		return wrong[api.Sample](values.e, values.pos)
	case len(times.list) != len(values.list):
		return wrong[api.Sample](api.ErrBlock, expect.None)
	}
	var l []api.Sample
	for i, time := range times.list {
		l = append(l, sample(time, values.list[i]))
	}
	return fine(l)
}

func ofSamples() kind[api.Sample] {
	return kind[api.Sample]{Pack, Unpack, packed, readSamples, someSamples}
}

// looks holds Unpack and Head of bytes against what they must tell, and tells whether they were taken.
func looks(t *testing.T, b []byte) bool {
	t.Helper()
	want := readSamples(t, b)
	n, from, to, err := Head(b)
	fails(t, b, err, want.e, want.pos)
	var first, last int64
	if len(want.list) > 0 {
		first, last = want.list[0].Time, want.list[len(want.list)-1].Time
	}
	if n != len(want.list) || from != first || to != last {
		t.Errorf("% x: %d from %d to %d, not %d from %d to %d", b, n, from, to, len(want.list), first, last)
	}
	return ofSamples().reads(t, b)
}

func TestPack(t *testing.T) {
	for _, c := range []struct {
		l    []api.Sample
		want string
	}{
		{nil, "01 00 01 00"},
		{[]api.Sample{sample(5, number(0))}, "02 01 0a 02 01 00"},
		{[]api.Sample{sample(0, number(1)), sample(10, over), sample(21, over)}, "05 03 00 0a a0 00 03 03 81 b0"},
		{[]api.Sample{sample(math.MinInt64, void), sample(math.MaxInt64, void)}, "15 02 ffffffffffffffffff01 ffffffffffffffffff01 02 02 e0"},
	} {
		want := unhex(c.want)
		b, err := Pack(c.l)
		if err != nil || !bytes.Equal(b, want) {
			t.Errorf("%v: % x, not %s, %v", c.l, b, c.want, err)
		}
		l, err := Unpack(want)
		holds(t, c.want, l, err, fine(c.l))
		looks(t, want)
	}
}

func TestPackFaults(t *testing.T) {
	long := make([]api.Sample, api.MaxBlock+1)
	long[3].Value.Kind = 9
	for _, c := range []struct {
		l []api.Sample
		e api.Errno
	}{
		{[]api.Sample{sample(1, over), sample(1, over)}, api.ErrRange},
		{[]api.Sample{sample(1, over), sample(0, over)}, api.ErrRange},
		{[]api.Sample{sample(1, api.Value{Kind: 3})}, api.ErrRange},
		{[]api.Sample{sample(1, number(1)), sample(2, api.Value{Kind: api.Over, N: 1})}, api.ErrRange},
		{[]api.Sample{sample(1, api.Value{Kind: 3}), sample(1, number(0))}, api.ErrRange},
		{long, api.ErrLong},
		{long[:api.MaxBlock], api.ErrRange},
	} {
		b, err := Pack(c.l)
		holds(t, c.l[:1], b, err, wrong[byte](c.e, expect.None))
	}
}

func TestUnpackFaults(t *testing.T) {
	one, two := packedTimes([]int64{5}), packedTimes([]int64{5, 6})
	v, vv := packedValues([]api.Value{over}), packedValues([]api.Value{over, void})
	for _, c := range []struct {
		b   []byte
		e   api.Errno
		pos int
	}{
		{nil, api.ErrShort, 0},
		{raw(one), api.ErrShort, len(one) + 1},
		{raw(one, v)[:5], api.ErrShort, 5},
		{append(raw(one, v), 0), api.ErrMore, len(one) + len(v) + 2},
		{raw(one, v, nil), api.ErrMore, len(one) + len(v) + 2},
		{unsigned(api.MaxFrame + 1), api.ErrLong, 0},
		{unsigned(api.MaxFrame), api.ErrShort, 4},
		{append(raw(one), unsigned(api.MaxFrame+1)...), api.ErrLong, len(one) + 1},
		{append(raw(one), unsigned(api.MaxFrame)...), api.ErrShort, len(one) + 5},
		{append(raw(one), 0x80, 0), api.ErrForm, len(one) + 2},
		{append(raw(nil, nil), 1), api.ErrMore, 2},
		{raw(nil, nil), api.ErrShort, 0},
		{raw(one, nil), api.ErrShort, 0},
		{raw(unhex("02 00 00"), v), api.ErrBlock, expect.None},
		{raw(unhex("02 00 0a 00"), v), api.ErrMore, 3},
		{raw(unhex("02 00 0a 00"), unhex("01 80 00")), api.ErrMore, 3},
		{raw(unhex("02 00 00"), unhex("00 00")), api.ErrBlock, expect.None},
		{raw(one, unhex("00 00")), api.ErrMore, 1},
		{raw(one, unhex("01 01")), api.ErrForm, 1},
		{raw(one, unhex("01 80 00")), api.ErrBlock, expect.None},
		{raw(one, vv), api.ErrBlock, expect.None},
		{raw(two, v), api.ErrBlock, expect.None},
		{raw(one, []byte{0}), api.ErrBlock, expect.None},
		{raw([]byte{0}, v), api.ErrBlock, expect.None},
		{raw(one, v), 0, expect.None},
		{raw(two, vv), 0, expect.None},
	} {
		l, err := Unpack(c.b)
		fails(t, fmt.Sprintf("% x", c.b), err, c.e, c.pos)
		if c.e != 0 && len(l) > 0 {
			t.Errorf("% x: %v", c.b, l)
		}
		looks(t, c.b)
	}
}

// someSamples draws samples, at most so many.
func someSamples(chance *rand.Rand, n int) []api.Sample {
	times := someTimes(chance, n)
	var l []api.Sample
	for i, v := range someValues(chance, len(times)) {
		l = append(l, sample(times[i], v))
	}
	return l
}

func TestSamplesComeBack(t *testing.T) { ofSamples().comesBack(t) }

func TestUnpackOfAnyBytes(t *testing.T) {
	ofSamples().anyBytes(t, func(b []byte) bool { return looks(t, b) })
}

// P9.5: whatever the step and the value.
func TestFewBytes(t *testing.T) {
	for _, step := range []int64{1, 10, 3600000000000, math.MaxInt64 / 500} {
		for _, v := range []api.Value{number(0), number(math.MinInt64), number(math.MaxInt64), over, void} {
			var l []api.Sample
			for i := range int64(1000) {
				l = append(l, sample((i-500)*step, v))
			}
			b, err := Pack(l)
			if err != nil || len(b) > 300 {
				t.Errorf("step %d, %v: %d bytes, %v", step, v, len(b), err)
			}
			back, err := Unpack(b)
			holds(t, step, back, err, fine(l))
		}
	}
}

func TestHead(t *testing.T) {
	b, _ := Pack([]api.Sample{sample(-3, number(7)), sample(9, over), sample(11, void)})
	if n, from, to, err := Head(b); n != 3 || from != -3 || to != 11 || err != nil {
		t.Error(n, from, to, err)
	}
	b, _ = Pack([]api.Sample{sample(4, number(7))})
	if n, from, to, err := Head(b); n != 1 || from != 4 || to != 4 || err != nil {
		t.Error(n, from, to, err)
	}
	b, _ = Pack(nil)
	if n, from, to, err := Head(b); n != 0 || from != 0 || to != 0 || err != nil {
		t.Error(n, from, to, err)
	}
}

func TestLongSamples(t *testing.T) {
	l := make([]api.Sample, api.MaxBlock)
	for i := range l {
		// The steps go up and down by more than the narrow classes hold, the values by nearly all bits.
		l[i] = sample(int64(i)*10000000+int64(i%3)*3000000, number(int64(i)*0x9e3779b97f4a7c1>>(i%5)))
	}
	b, err := Pack(l)
	if err != nil || len(b) > api.MaxFrame {
		t.Fatalf("%d bytes, %v", len(b), err)
	}
	back, err := Unpack(b)
	holds(t, "as many as may be", back, err, fine(l))
	if n, from, to, err := Head(b); n != len(l) || from != 0 || to != l[len(l)-1].Time || err != nil {
		t.Error(n, from, to, err)
	}
}

func TestSamplesMemory(t *testing.T) {
	l := []api.Sample{sample(1, over), sample(5, number(1<<40)), sample(30, number(2))}
	ofSamples().sharesNothing(t, l, sample(-7, void))
	b, _ := Pack(l)
	row, whole := roomy(b, 0xee)
	kept := bytes.Clone(whole)
	Head(row)
	if !bytes.Equal(whole, kept) {
		t.Errorf("% x, not % x", whole, kept)
	}
}
