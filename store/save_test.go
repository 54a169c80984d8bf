package store

import (
	"bytes"
	"testing"

	"weir/api"
	"weir/block"
	"weir/expect"
	"weir/wire"
)

// packed are the bytes of samples at these times, each with its number as the value.
func packed(times ...int64) []byte {
	var l []api.Sample
	for i, t := range times {
		l = append(l, api.Sample{Time: t, Value: number(int64(i))})
	}
	b, err := block.Pack(l)
	if err != nil {
		panic(err)
	}
	return b
}

// part is the key and the samples of a series, as bytes.
func part(name string, samples []byte) []byte {
	var w wire.Writer
	w.Text(name)
	w.Raw(samples)
	return w.Bytes()
}

// whole are parts behind a number that says how many there are.
func whole(n byte, parts ...[]byte) []byte { return append([]byte{n}, bytes.Join(parts, nil)...) }

// P11.6: a store's bytes, one by one.
func TestSave(t *testing.T) {
	is(t, "an empty store", fresh(t, 1, 1).Save(), []byte{0})
	s := filled(t, put(of("cpu", "v", "host", "a b"), 10, 1), put(of("cpu", "v", "host", "a b"), 0, 0), put(of("b", "v"), 5, 0))
	want := whole(2, part("b v", packed(5)), part(`cpu,host=a\ b v`, packed(0, 10)))
	is(t, "two series", s.Save(), want)
	is(t, "two series", whole(2, []byte("\x03b v"), []byte("\x06\x02\x01\x0a\x02\x01\x00")), want[:12])
	// The order is that of series, and not of keys: a blank in a measure stands ahead of a comma, its key has a \ there.
	s = filled(t, put(of("a b", "v"), 1, 0), put(of("a", "v", "k", "v"), 1, 0), put(of("a,", "v"), 1, 0), put(of("a", "v"), 1, 0))
	is(t, "four series", s.Save(), whole(4, part("a v", packed(1)), part("a,k=v v", packed(1)), part(`a\ b v`, packed(1)), part(`a\, v`, packed(1))))
}

// P11.6: what Load tells of wrong bytes, from the left.
func TestLoadFaults(t *testing.T) {
	a, b, c := part("a v", packed(1)), part("b v", packed(1, 2)), part("c v", packed(1, 2, 3))
	for i, x := range []struct {
		b   []byte
		e   api.Errno
		pos int
	}{
		{nil, api.ErrShort, 0},
		{[]byte{0x80}, api.ErrShort, 1},
		{[]byte{0x80, 0}, api.ErrForm, 1},
		{[]byte{0x81, 0x20}, api.ErrRange, 0}, // 4097
		{[]byte{0x80, 0x20}, api.ErrShort, 2}, // 4096
		{whole(1), api.ErrShort, 1},
		{whole(1, []byte{5, 'a'}), api.ErrShort, 3},
		{whole(1, []byte{0x81, 0x80, 0x80, 0x20, 'a'}), api.ErrLong, 1}, // 2^26 + 1
		{whole(1, []byte{0x80, 0x80, 0x80, 0x20, 'a'}), api.ErrShort, 6},
		{whole(1, part("", packed(1))), api.ErrForm, 1},
		{whole(1, part("a", packed(1))), api.ErrForm, 1},
		{whole(1, part("a v ", packed(1))), api.ErrForm, 1},
		{whole(1, part(`\a v`, packed(1))), api.ErrForm, 1},
		{whole(1, part("a time", packed(1))), api.ErrForm, 1},
		{whole(1, part("a,y=1,x=1 v", packed(1))), api.ErrForm, 1},
		{whole(1, []byte("\x01a")), api.ErrForm, 1},
		{whole(1, []byte("\x03a v")), api.ErrShort, 5},
		{whole(1, []byte("\x03a v\x81\x80\x80\x20")), api.ErrLong, 5},
		{whole(1, []byte("\x03a v\x02\x01")), api.ErrShort, 7},
		{whole(1, part("a v", nil)), api.ErrForm, 5},
		{whole(1, part("a v", packed())), api.ErrForm, 5},
		{whole(1, part("a v", append(packed(1), 0))), api.ErrForm, 5},
		{whole(1, part("a v", packed(1)[:4])), api.ErrForm, 5},
		{whole(2, a, part("b v", packed())), api.ErrForm, 1 + len(a) + 4},
		{whole(2, a, a), api.ErrForm, 1 + len(a)},
		{whole(2, b, a), api.ErrForm, 1 + len(b)},
		{whole(2, part("a,k=v v", packed(1)), part("a w", packed(1))), api.ErrForm, 1 + 8 + 7},
		{whole(3, a, c, b), api.ErrForm, 1 + len(a) + len(c)},
		{whole(2, a), api.ErrShort, 1 + len(a)},
		{whole(0, a), api.ErrMore, 1},
		{whole(1, a, b), api.ErrMore, 1 + len(a)},
		{whole(3, a, b, c, []byte{0}), api.ErrMore, 1 + len(a) + len(b) + len(c)},
		{whole(3, a, b, c), api.ErrSeries, expect.None},
		{whole(2, a, c), api.ErrPoints, expect.None},
		{whole(2, a, b), 0, expect.None},
		{whole(1, c), 0, expect.None},
		{whole(0), 0, expect.None},
	} {
		s, err := Load(x.b, 2, 3)
		if (s == nil) != (x.e != 0) {
			t.Errorf("%d: a store %t", i, s != nil)
		}
		if wrong := expect.Wrong(err, x.e, x.pos, expect.None); wrong != "" {
			t.Errorf("%d: %x: %v: %s", i, x.b, err, wrong)
		}
		_, err = Load(x.b, -1, 3)
		fails(t, i, err, api.ErrRange, expect.None)
	}
}

// P11.6: very many samples in few bytes, for which there is no room: they are told of all the same.
func TestLoadWithoutRoom(t *testing.T) {
	var many []api.Sample
	for i := range api.MaxBlock {
		many = append(many, api.Sample{Time: int64(i)})
	}
	b, _ := block.Pack(many)
	all := whole(3, part("a v", b), part("b v", b), part("c v", packed(1)))
	_, err := Load(all, 3, api.MaxPoints)
	fails(t, "three series", err, api.ErrPoints, expect.None)
	_, err = Load(all, 2, api.MaxPoints)
	fails(t, "three series", err, api.ErrSeries, expect.None)
	_, err = Load(all[:len(all)-1], 1, 1)
	if wrong := expect.Wrong(err, api.ErrShort, len(all)-1, expect.None); wrong != "" {
		t.Errorf("%v: %s", err, wrong)
	}
	s, err := Load(whole(1, part("a v", b)), 1, api.MaxPoints)
	if err != nil || !bytes.Equal(s.Save(), whole(1, part("a v", b))) {
		t.Errorf("the longest of all: %v", err)
	}
}

// P11.10: what was saved comes back, and what Load takes is saved so.
func TestSaveAndLoad(t *testing.T) {
	chance := draw()
	taken := 0
	for range 60 {
		m := &model{8, 40, map[spot]api.Value{}}
		var l []api.Write
		for range chance.Intn(30) {
			l = append(l, someWrite(chance, false))
		}
		m.write(l)
		b := m.bytes()
		s, err := Load(b, 8, 40)
		fails(t, "Load", err, 0, expect.None)
		m.agrees(t, s)
		for range 20 {
			m.step(t, s, chance)
		}
		m.agrees(t, s)
		for i := range b {
			turned := bytes.Clone(b)
			turned[i] ^= 1 << chance.Intn(8)
			for _, other := range [][]byte{turned, b[:i], append(turned[:i:i], b[i+1:]...)} {
				if s, err := Load(other, 8, 40); err == nil {
					taken++
					is(t, "Save of Load", s.Save(), other)
				} else if s != nil {
					t.Fatalf("%x: a store beside %v", other, err)
				}
			}
		}
	}
	if taken < 100 {
		t.Errorf("%d turned bytes were taken", taken)
	}
}

// P11.6: any bytes are read to an end.
func TestLoadAnyBytes(t *testing.T) {
	chance := draw()
	for range 20000 {
		b := make([]byte, chance.Intn(24))
		for i := range b {
			b[i] = pick(chance, []byte("\x00\x01\x02\x03\x04\x06a v,=\\\x80\xff"))
		}
		if s, err := Load(b, 9, 9); err == nil {
			is(t, "Save of Load", s.Save(), b)
		}
	}
}
