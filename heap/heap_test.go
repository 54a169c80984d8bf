package heap

import (
	"slices"
	"strconv"
	"testing"

	"weir/api"
	"weir/expect"
	"weir/sample"
)

var bothWays = []bool{false, true}

// The chapter's first example.
func TestFirstExample(t *testing.T) {
	h := New(false)
	for i, e := range read("a 5, b 3, c 4") {
		fails(t, e, h.Put(e), 0)
		if want := []int{0, 1, 0}[i]; h.Moves() != want {
			t.Errorf("Put of %v: %d moves", e, h.Moves())
		}
	}
	lie(t, h, "b 3, a 5, c 4")
	e, err := h.Take("b")
	fails(t, "b", err, 0)
	if e != (api.Entry{Rank: 3, Name: "b"}) {
		t.Errorf("Take(b): %v", e)
	}
	lie(t, h, "c 4, a 5")
	fails(t, "a", h.Turn("a", 1), 0)
	lie(t, h, "a 1, c 4")
}

// The chapter's second example.
func TestSecondExample(t *testing.T) {
	h := built(t, true, read("a 1, b 2, c 3"))
	lie(t, h, "c 3, b 2, a 1")
	if h.Moves() != 1 {
		t.Errorf("%d moves", h.Moves())
	}
	fails(t, "a", h.Put(api.Entry{Name: "a"}), api.ErrKnown)
	_, err := New(true).Pop()
	fails(t, "Pop", err, api.ErrNone)
	refuses(t, read("a 1, a 1"), 1)
}

// refuses holds Build of entries against the number of the one that is known.
func refuses(t *testing.T, l []api.Entry, number int) {
	t.Helper()
	for _, most := range bothWays {
		h, err := Build(most, l)
		if wrong := expect.Wrong(err, api.ErrKnown, expect.None, number); wrong != "" || h != nil {
			t.Errorf("Build of %.200v: %v, %v: %s", l, h, err, wrong)
		}
	}
}

func TestBuildKnown(t *testing.T) {
	refuses(t, read("a 1, a 2"), 1)
	refuses(t, read("a 1, b 1, c 1, b 2, a 1"), 3)
	refuses(t, read("a 1, b 1, c 1, d 2, a 1"), 4)
	refuses(t, make([]api.Entry, 3), 1)
	for _, l := range [][]api.Entry{nil, {}, {{}}, read("a 1, A 1, aa 1")} {
		for _, most := range bothWays {
			m, _ := build(most, l)
			m.agrees(t, l, built(t, most, l))
		}
	}
}

func TestNil(t *testing.T) {
	var h *Heap
	fails(t, "Put", h.Put(api.Entry{}), api.ErrNil)
	fails(t, "Turn", h.Turn("", 1), api.ErrNil)
	e, err := h.Take("")
	fails(t, "Take", err, api.ErrNil)
	has(t, "Take", e, false, nil)
	e, err = h.Pop()
	fails(t, "Pop", err, api.ErrNil)
	has(t, "Pop", e, false, nil)
	if h.Fork() != nil {
		t.Error("nil has a fork")
	}
	(&model{}).agrees(t, "nil", h)
}

func TestEmpty(t *testing.T) {
	for _, most := range bothWays {
		h, m := New(most), &model{most: most}
		m.agrees(t, "New", h)
		m.agrees(t, "a fork", h.Fork())
		nothing(t, h)
		m.agrees(t, "what was refused", h)
		fails(t, "Put", h.Put(api.Entry{Rank: 7}), 0)
		_, err := h.Take("")
		fails(t, "Take", err, 0)
		nothing(t, h)
		m.agrees(t, "empty again", h)
	}
}

// nothing holds the calls that need an entry against an empty heap.
func nothing(t *testing.T, h *Heap) {
	t.Helper()
	for _, name := range someNames {
		e, err := h.Take(name)
		fails(t, name, err, api.ErrNone)
		has(t, name, e, false, nil)
		fails(t, name, h.Turn(name, 1), api.ErrNone)
	}
	e, err := h.Pop()
	fails(t, "Pop", err, api.ErrNone)
	has(t, "Pop", e, false, nil)
}

// A call that is refused changes nothing, and tells no moves of its own.
func TestRefused(t *testing.T) {
	h := built(t, false, read("e 1, d 2, c 3, b 4"))
	fails(t, "z", h.Put(api.Entry{Rank: 0, Name: "z"}), 0)
	lie(t, h, "z 0, e 1, c 3, b 4, d 2")
	if h.Moves() != 2 {
		t.Fatalf("%d moves", h.Moves())
	}
	fails(t, "Put", h.Put(api.Entry{Rank: -9, Name: "d"}), api.ErrKnown)
	fails(t, "Put", h.Put(api.Entry{Rank: 2, Name: "d"}), api.ErrKnown)
	fails(t, "Turn", h.Turn("none", -9), api.ErrNone)
	_, err := h.Take("none")
	fails(t, "Take", err, api.ErrNone)
	lie(t, h, "z 0, e 1, c 3, b 4, d 2")
	if h.Moves() != 2 {
		t.Errorf("%d moves behind calls that were refused", h.Moves())
	}
	fails(t, "Turn", h.Turn("z", 0), 0)
	if h.Moves() != 0 {
		t.Errorf("%d moves, though nothing moved", h.Moves())
	}
}

// Moves of Build are told till another call moves something.
func TestBuildMoves(t *testing.T) {
	h := built(t, false, read("d 4, c 3, b 2, a 1"))
	lie(t, h, "a 1, c 3, b 2, d 4")
	for _, one := range []*Heap{h, h.Fork()} {
		if one.Moves() != 3 {
			t.Errorf("%d moves", one.Moves())
		}
		_, err := one.Take("none")
		fails(t, "Take", err, api.ErrNone)
		if one.Moves() != 3 {
			t.Errorf("%d moves", one.Moves())
		}
		_, err = one.Take("d")
		fails(t, "Take", err, 0)
		if one.Moves() != 0 {
			t.Errorf("%d moves of the last one that was taken", one.Moves())
		}
	}
}

// The one that comes to lie where another one was taken may have to move up.
func TestTakeMovesUp(t *testing.T) {
	h := built(t, false, read("a 1, b 9, c 2, d 10, e 11, f 3, g 4"))
	if h.Moves() != 0 {
		t.Fatalf("%d moves", h.Moves())
	}
	_, err := h.Take("d")
	fails(t, "d", err, 0)
	lie(t, h, "a 1, g 4, c 2, b 9, e 11, f 3")
	if h.Moves() != 1 {
		t.Errorf("%d moves", h.Moves())
	}
}

// step does one thing to a heap and to what it must be, and holds both answers against each other.
func step(t *testing.T, d sample.Draw, h *Heap, m *model) {
	t.Helper()
	var got, want api.Entry
	var err error
	var no api.Errno
	e, ahead := someEntry(d), h.Len()
	switch d(7) {
	case 0, 1, 2:
		err, no = h.Put(e), m.put(e)
	case 3:
		got, err = h.Take(e.Name)
		want, no = m.take(e.Name)
	case 4, 5:
		err, no = h.Turn(e.Name, e.Rank), m.turn(e.Name, e.Rank)
	case 6:
		got, err = h.Pop()
		want, no = m.pop()
	}
	fails(t, e, err, no)
	if got != want {
		t.Errorf("%v is out, not %v", got, want)
	}
	if no == 0 {
		bounded(t, h, ahead)
	}
}

func TestAnyCalls(t *testing.T) {
	d := draw()
	for range 400 {
		most := d(2) == 0
		h, m := New(most), &model{most: most}
		if d(2) == 0 {
			l := unlike(d, d(6), 4)
			h = built(t, most, l)
			m, _ = build(most, l)
		}
		for range 120 {
			step(t, d, h, m)
			m.agrees(t, "a step", h)
		}
	}
}

// lists shows all lists of so many ranks of 0, 1, 2, each with names that rise, or fall.
func lists(many int, see func([]api.Entry)) {
	l := make([]api.Entry, many)
	var next func(at int)
	next = func(at int) {
		if at == many {
			see(l)
			return
		}
		for rank := range int64(3) {
			l[at].Rank = rank
			next(at + 1)
		}
	}
	for _, falls := range bothWays {
		for i := range l {
			l[i].Name = string(rune('a' + i))
			if falls {
				l[i].Name = string(rune('z' - i))
			}
		}
		next(0)
	}
}

// All short lists, put and built, and all that can be taken and turned in them.
func TestShort(t *testing.T) {
	for many := range 7 {
		lists(many, func(l []api.Entry) {
			for _, most := range bothWays {
				a, m := New(most), &model{most: most}
				for _, e := range l {
					fails(t, e, a.Put(e), m.put(e))
				}
				m.agrees(t, l, a)
				each(t, a, m)
				b := built(t, most, l)
				m, _ = build(most, l)
				m.agrees(t, l, b)
				each(t, b, m)
			}
		})
	}
}

// each takes each entry out of a fork, and turns it.
func each(t *testing.T, h *Heap, m *model) {
	t.Helper()
	for _, e := range h.List() {
		other, its := h.Fork(), m.fork()
		got, err := other.Take(e.Name)
		if _, no := its.take(e.Name); got != e {
			t.Errorf("Take(%s): %v", e.Name, got)
		} else {
			fails(t, e, err, no)
		}
		its.agrees(t, e, other)
		for rank := int64(-1); rank < 4; rank++ {
			other, its := h.Fork(), m.fork()
			fails(t, e, other.Turn(e.Name, rank), its.turn(e.Name, rank))
			its.agrees(t, e, other)
		}
	}
	m.agrees(t, "forks", h)
}

// A great heap moves few.
func TestManyEntries(t *testing.T) {
	d := draw()
	for _, ranks := range []int{1, 3, 1000, 1 << 40} {
		most := ranks == 3
		l := unlike(d, 3000, ranks)
		h := built(t, most, l)
		if h.Moves() > len(l) {
			t.Errorf("Build of %d in %d moves", len(l), h.Moves())
		}
		for i, e := range l {
			other := "m" + strconv.Itoa(i)
			for _, err := range []error{h.Put(api.Entry{Rank: -e.Rank, Name: other}), h.Turn(e.Name, int64(d(ranks))), h.Turn(other, int64(d(ranks)))} {
				fails(t, e, err, 0)
				bounded(t, h, h.Len())
			}
		}
		want := h.Sorted()
		if got := popped(t, h); !slices.Equal(got, want) || len(got) != 2*len(l) {
			t.Errorf("%d entries are popped otherwise than they are sorted", len(got))
		}
	}
}

// Each put of one that is ahead of all goes all the way up, and no farther than it may.
func TestLongestWay(t *testing.T) {
	h := New(false)
	for i := range 1025 {
		fails(t, i, h.Put(api.Entry{Rank: int64(-i), Name: strconv.Itoa(i)}), 0)
		bounded(t, h, i)
	}
	if h.Moves() != 10 {
		t.Errorf("%d moves", h.Moves())
	}
}

// Build moves at most as many as there are, even where each lies the wrong way.
func TestBuildFalling(t *testing.T) {
	for many := range 300 {
		var l []api.Entry
		for i := range many {
			l = append(l, api.Entry{Rank: int64(-i), Name: strconv.Itoa(i)})
		}
		m, _ := build(false, l)
		h := built(t, false, l)
		if h.Moves() != m.moves || h.Moves() > many || many > 1 && h.Moves() == 0 {
			t.Errorf("Build of %d in %d moves", many, h.Moves())
		}
		if up := built(t, true, l); up.Moves() != 0 {
			t.Errorf("Build of %d that lie well in %d moves", many, up.Moves())
		}
	}
}

// What is in is what counts, not how it came there.
func TestOtherWays(t *testing.T) {
	d := draw()
	for range 300 {
		most := d(2) == 0
		l := unlike(d, 1+d(30), 5)
		a, b, c := put(t, most, l), built(t, most, l), New(most)
		for _, e := range unlike(d, len(l)+d(9), 5) {
			fails(t, e, c.Put(e), 0)
		}
		for _, e := range c.Sorted() {
			at := slices.IndexFunc(l, func(one api.Entry) bool { return one.Name == e.Name })
			if at < 0 {
				_, err := c.Take(e.Name)
				fails(t, e, err, 0)
				continue
			}
			fails(t, e, c.Turn(e.Name, l[at].Rank), 0)
		}
		want := (&model{most: most, l: l}).sorted()
		for way, h := range []*Heap{a, b, c} {
			if got := h.Sorted(); !slices.Equal(got, want) {
				t.Errorf("way %d: %v, not %v", way, got, want)
			}
			if got := popped(t, h); !slices.Equal(got, want) {
				t.Errorf("way %d pops %v, not %v", way, got, want)
			}
		}
	}
}

// What is put and taken again leaves what is in as it was.
func TestPutAndTake(t *testing.T) {
	d := draw()
	for range 300 {
		most := d(2) == 0
		h := built(t, most, unlike(d, d(30), 5))
		want := h.Sorted()
		e := someEntry(d)
		fails(t, e, h.Put(e), 0)
		got, err := h.Take(e.Name)
		fails(t, e, err, 0)
		if l := h.Sorted(); got != e || !slices.Equal(l, want) {
			t.Errorf("%v: %v, and %v are left, not %v", e, got, l, want)
		}
	}
}

// What becomes of a heap changes nothing of its fork.
func TestFork(t *testing.T) {
	d := draw()
	for range 200 {
		most := d(2) == 0
		h, m := New(most), &model{most: most}
		for range d(30) {
			step(t, d, h, m)
		}
		other, its := h.Fork(), m.fork()
		for range 40 {
			if d(2) == 0 {
				step(t, d, h, m)
			} else {
				step(t, d, other, its)
			}
			m.agrees(t, "a heap", h)
			its.agrees(t, "its fork", other)
		}
	}
}

// Lists that come in and go out lie apart from what is kept, and from one another.
func TestMemory(t *testing.T) {
	spoilt := api.Entry{Rank: -99, Name: "spoilt"}
	for _, most := range bothWays {
		l := sample.Room(read("a 1, b 3, c 2, d 5, e 4"), spoilt)
		was := slices.Clone(sample.Spare(l))
		h := built(t, most, l)
		fails(t, "f", h.Put(api.Entry{Rank: 7, Name: "f"}), 0)
		if !slices.Equal(sample.Spare(l), was) {
			t.Errorf("Build's entries became %v", sample.Spare(l))
		}
		m, _ := build(most, l)
		m.put(api.Entry{Rank: 7, Name: "f"})
		sample.Fill(l, spoilt)
		for _, answer := range []func() []api.Entry{h.List, h.Sorted} {
			one, two := answer(), answer()
			want := slices.Clone(two)
			sample.Fill(one, spoilt)
			if !slices.Equal(two, want) {
				t.Errorf("one answer changed another one: %v", two)
			}
			m.agrees(t, "what was answered is the caller's", h)
		}
	}
}

// What is taken out is let go: neither its name nor its place is kept.
func TestLetGo(t *testing.T) {
	h := built(t, false, read("a 1, b 2, c 3, d 4"))
	for _, name := range []string{"b", "d", "a"} {
		_, err := h.Take(name)
		fails(t, name, err, 0)
	}
	for _, e := range h.entries[1:cap(h.entries)] {
		if e != (api.Entry{}) {
			t.Errorf("%v is kept", e)
		}
	}
	if len(h.places) != 1 {
		t.Errorf("places are kept: %v", h.places)
	}
}
