package block

import (
	"bytes"
	"math/rand"
	"slices"
	"testing"

	"weir/api"
)

// kind is what a row is of: how the package packs and reads it, and how the tests tell both anew.
type kind[T comparable] struct {
	pack   func([]T) ([]byte, error)
	unpack func([]byte) ([]T, error)
	packed func([]T) []byte
	read   func(*testing.T, []byte) told[T]
	some   func(*rand.Rand, int) []T
}

// writes holds what is packed of a row against what it must be; it must come back.
func (k kind[T]) writes(t *testing.T, l []T) []byte {
	t.Helper()
	b, err := k.pack(l)
	if want := k.packed(l); err != nil || !bytes.Equal(b, want) {
		t.Fatalf("%v: % x, not % x, %v", l, b, want, err)
	}
	back, err := k.unpack(b)
	holds(t, l, back, err, fine(l))
	return b
}

// reads holds what is read of bytes against what it must be, and tells whether they are taken: then they are the one way to write it.
func (k kind[T]) reads(t *testing.T, b []byte) bool {
	t.Helper()
	l, err := k.unpack(b)
	holds(t, b, l, err, k.read(t, b))
	if err != nil {
		return false
	}
	if again, err := k.pack(l); err != nil || !bytes.Equal(again, b) {
		t.Fatalf("% x: %v: % x, %v", b, l, again, err)
	}
	return true
}

// answer is what must be told of bytes, which stand as hexadecimal digits: an error's number and place, or none.
type answer struct {
	b   string
	e   api.Errno
	pos int
}

// tells holds what is read of bytes, and the tests' own telling of it, against answers.
func (k kind[T]) tells(t *testing.T, answers []answer) {
	t.Helper()
	for _, c := range answers {
		b := unhex(c.b)
		if want := k.read(t, b); want.e != c.e || want.pos != c.pos {
			t.Errorf("%s: %v at %d, not %v at %d", c.b, want.e, want.pos, c.e, c.pos)
		}
		k.reads(t, b)
	}
}

// endsAtOnce reads bytes that promise much: the number is not believed ahead of what stands behind it.
func (k kind[T]) endsAtOnce(t *testing.T, b []byte) {
	t.Helper()
	if n := testing.AllocsPerRun(10, func() { k.unpack(b) }); n > 20 {
		t.Errorf("%v pieces of memory for a row that ends at once", n)
	}
	l, err := k.unpack(b)
	holds(t, b, l, err, wrong[T](api.ErrShort, len(b)))
}

// comesBack packs rows of chance: P9.4, and, cut anywhere, P9.6.
func (k kind[T]) comesBack(t *testing.T) {
	t.Helper()
	chance := draw()
	for range 3000 {
		b := k.writes(t, k.some(chance, chance.Intn(40)))
		for n := range b {
			if l, err := k.unpack(b[:n]); err == nil || len(l) > 0 {
				t.Fatalf("% x, cut at %d: %v", b, n, l)
			}
		}
	}
}

// anyBytes reads rows of bytes that nobody packed, and packed ones that were turned.
func (k kind[T]) anyBytes(t *testing.T, look func([]byte) bool) {
	t.Helper()
	taken := 0
	count := func(b []byte) {
		if look(b) {
			taken++
		}
	}
	someBytes(count)
	chance := draw()
	for range 30000 {
		count(turned(chance, k.packed(k.some(chance, chance.Intn(12)))))
	}
	if taken < 500 {
		t.Errorf("only %d rows of bytes were taken", taken)
	}
}

// sharesNothing holds what is handed in and what is answered against one another, the room behind both too: P3.
func (k kind[T]) sharesNothing(t *testing.T, l []T, room T) {
	t.Helper()
	list, all := roomy(l, room)
	before := slices.Clone(all)
	b, err := k.pack(list)
	if err != nil || !slices.Equal(all, before) {
		t.Errorf("%v, %v", all, err)
	}
	row, whole := roomy(b, 0xee)
	kept := bytes.Clone(whole)
	first, _ := k.unpack(row)
	second, _ := k.unpack(row)
	clear(first[:cap(first)])
	clear(b[:cap(b)])
	if !bytes.Equal(whole, kept) {
		t.Errorf("% x, not % x", whole, kept)
	}
	if third, _ := k.unpack(row); !slices.Equal(second, l) || !slices.Equal(third, l) {
		t.Errorf("%v, %v", second, third)
	}
}
