package block

import (
	"encoding/hex"
	"fmt"
	"math"
	"math/rand"
	"slices"
	"strings"
	"testing"

	"weir/api"
	"weir/expect"
	"weir/wire"
)

// fails holds an error against a number and a place; it must tell no index.
func fails(t *testing.T, what any, err error, e api.Errno, pos int) {
	t.Helper()
	if wrong := expect.Wrong(err, e, pos, expect.None); wrong != "" {
		t.Errorf("%.200s: %v: %s", fmt.Sprint(what), err, wrong)
	}
}

// told is an answer of which the tests hold two against each other: a list, or an error's number and place.
type told[T comparable] struct {
	list []T
	e    api.Errno
	pos  int
}

func fine[T comparable](l []T) told[T] { return told[T]{l, 0, expect.None} }

func wrong[T comparable](e api.Errno, pos int) told[T] { return told[T]{nil, e, pos} }

// faulty is what a Reader's fault tells.
func faulty[T comparable](t *testing.T, err error) told[T] {
	t.Helper()
	at, ok := err.(api.At)
	if !ok {
		t.Fatalf("%v has no place", err)
	}
	return wrong[T](at.Err.(api.Errno), at.Pos)
}

// holds holds an answer against what it must be.
func holds[T comparable](t *testing.T, what any, l []T, err error, want told[T]) {
	t.Helper()
	fails(t, what, err, want.e, want.pos)
	if !slices.Equal(l, want.list) || err != nil && len(l) > 0 {
		t.Errorf("%.200s: %.200s, not %.200s", fmt.Sprint(what), fmt.Sprint(l), fmt.Sprint(want.list))
	}
}

// draw is a source with a fixed seed, so that each run draws the same.
func draw() *rand.Rand { return rand.New(rand.NewSource(1970)) }

func unhex(s string) []byte {
	b, err := hex.DecodeString(strings.ReplaceAll(s, " ", ""))
	if err != nil {
		panic(err)
	}
	return b
}

// unsigned and signed are a number as wire writes it.
func unsigned(n uint64) []byte {
	var w wire.Writer
	w.Uint(n)
	return w.Bytes()
}

func signed(n int64) []byte {
	var w wire.Writer
	w.Int(n)
	return w.Bytes()
}

// digits are bits as a text of the digits 0 and 1.
func digits(b []byte) string {
	var s strings.Builder
	for _, v := range b {
		fmt.Fprintf(&s, "%08b", v)
	}
	return s.String()
}

// undigits are the bytes of such a text, filled up by zeros.
func undigits(s string) []byte {
	var b []byte
	for ; s != ""; s = s[min(8, len(s)):] {
		v := byte(0)
		for i := range min(8, len(s)) {
			v |= (s[i] - '0') << (7 - i)
		}
		b = append(b, v)
	}
	return b
}

// behind tells what is wrong where a row's bits have been read, so many of those that begin at a byte; nothing, if nothing is.
func behind(b []byte, at, used int) (api.Errno, int) {
	if used%8 != 0 && strings.Contains(digits(b)[8*at+used:8*at+(used+7)/8*8], "1") {
		return api.ErrForm, at + used/8
	}
	if end := at + (used+7)/8; end < len(b) {
		return api.ErrMore, end
	}
	return 0, expect.None
}

// someTimes draws times that rise, whose steps turn by little and by much.
func someTimes(chance *rand.Rand, n int) []int64 {
	var l []int64
	t, step := int64(chance.Uint64())>>chance.Intn(64), int64(chance.Intn(5000))
	for range n {
		l = append(l, t)
		step += chance.Int63n(1<<chance.Intn(14)+1) - chance.Int63n(1<<chance.Intn(14)+1)
		if chance.Intn(40) == 0 {
			step = chance.Int63() >> chance.Intn(63)
		}
		step = max(step, 1)
		if t > math.MaxInt64-step {
			break
		}
		t += step
	}
	return l
}

// someValues draws values of all kinds, near one another and far.
func someValues(chance *rand.Rand, n int) []api.Value {
	var l []api.Value
	for len(l) < n {
		v := api.Value{N: int64(chance.Uint64()) >> chance.Intn(64)}
		switch chance.Intn(6) {
		case 0:
			v = api.Value{Kind: api.Over}
		case 1:
			v = api.Value{Kind: api.Void}
		case 2:
			v = api.Value{N: int64(chance.Intn(3) - 1)}
		}
		for range 1 + chance.Intn(3) {
			l = append(l, v)
		}
	}
	return l[:n]
}

// turned is b with some change: a bit turned, its end lost, or bytes behind it.
func turned(chance *rand.Rand, b []byte) []byte {
	b = slices.Clone(b)
	switch chance.Intn(4) {
	case 0:
		b = b[:chance.Intn(len(b)+1)]
	case 1:
		b = append(b, byte(chance.Intn(3)))
	default:
		if len(b) > 0 {
			b[chance.Intn(len(b))] ^= 1 << chance.Intn(8)
		}
	}
	return b
}

// roomy is a list with room behind its end, and a look at all of it.
func roomy[T any](l []T, room T) (list, all []T) {
	all = append(slices.Clone(l), room, room, room)
	return all[:len(l)], all
}

// someBytes calls f with each row of at most two bytes, and with others of chance.
func someBytes(f func([]byte)) {
	f(nil)
	for a := range 256 {
		f([]byte{byte(a)})
		for b := range 256 {
			f([]byte{byte(a), byte(b)})
		}
	}
	chance := draw()
	for range 200000 {
		b := make([]byte, 3+chance.Intn(12))
		chance.Read(b)
		b[0] &= 7
		f(b)
	}
}
