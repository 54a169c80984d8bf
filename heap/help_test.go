package heap

import (
	"cmp"
	"math"
	"math/rand"
	"slices"
	"strconv"
	"strings"
	"testing"

	"weir/api"
	"weir/expect"
	"weir/num"
	"weir/sample"
)

// fails holds an error against a number; it must tell no place and no index.
func fails(t *testing.T, what any, err error, e api.Errno) {
	t.Helper()
	if wrong := expect.Wrong(err, e, expect.None, expect.None); wrong != "" {
		t.Errorf("%.300v: %v: %s", what, err, wrong)
	}
}

// draw draws from a source with a fixed seed, so that each run draws the same.
func draw() sample.Draw { return rand.New(rand.NewSource(1970)).Intn }

// read is entries out of a text: a 5, b 3.
func read(s string) []api.Entry {
	var l []api.Entry
	for _, one := range strings.Split(s, ", ") {
		name, rank, _ := strings.Cut(one, " ")
		n, err := strconv.ParseInt(rank, 10, 64)
		if err != nil {
			panic(s)
		}
		l = append(l, api.Entry{Rank: n, Name: name})
	}
	return l
}

// lie holds the entries of a heap, as they lie, against a text of them; empty: none.
func lie(t *testing.T, h *Heap, want string) {
	t.Helper()
	var l []api.Entry
	if want != "" {
		l = read(want)
	}
	if got := h.List(); !slices.Equal(got, l) {
		t.Errorf("%v lie there, not %v", got, l)
	}
}

// has holds an entry, and whether there is one, against what must be; nil: none.
func has(t *testing.T, what any, got api.Entry, some bool, want *api.Entry) {
	t.Helper()
	if want == nil && (some || got != api.Entry{}) || want != nil && (!some || got != *want) {
		t.Errorf("%v: %v, %t, not %v", what, got, some, want)
	}
}

// model is a heap told anew: a list, which is gone through for each name.
type model struct {
	most  bool
	l     []api.Entry
	moves int
}

func compare(a, b api.Entry) int {
	return cmp.Or(cmp.Compare(a.Rank, b.Rank), strings.Compare(a.Name, b.Name))
}

func (m *model) ahead(a, b api.Entry) bool {
	if m.most {
		return compare(a, b) > 0
	}
	return compare(a, b) < 0
}

func (m *model) find(name string) int {
	return slices.IndexFunc(m.l, func(e api.Entry) bool { return e.Name == name })
}

func (m *model) change(i, j int) {
	m.l[i], m.l[j] = m.l[j], m.l[i]
	m.moves++
}

// up and down are the chapter's words, place by place.
func (m *model) up(i int) {
	if i == 0 {
		return
	}
	over := i/2 - 1 // of an even place
	if i%2 == 1 {
		over = i / 2
	}
	if m.ahead(m.l[i], m.l[over]) {
		m.change(i, over)
		m.up(over)
	}
}

func (m *model) down(i int) {
	var kids []int
	for _, k := range []int{2*i + 1, 2*i + 2} {
		if k < len(m.l) {
			kids = append(kids, k)
		}
	}
	if len(kids) == 2 && m.ahead(m.l[kids[1]], m.l[kids[0]]) {
		kids = kids[1:]
	}
	if len(kids) > 0 && m.ahead(m.l[kids[0]], m.l[i]) {
		m.change(i, kids[0])
		m.down(kids[0])
	}
}

func (m *model) mend(i int) {
	if m.up(i); m.moves == 0 {
		m.down(i)
	}
}

func (m *model) put(e api.Entry) api.Errno {
	if m.find(e.Name) >= 0 {
		return api.ErrKnown
	}
	m.l, m.moves = append(m.l, e), 0
	m.up(len(m.l) - 1)
	return 0
}

func (m *model) take(name string) (api.Entry, api.Errno) {
	at := m.find(name)
	if at < 0 {
		return api.Entry{}, api.ErrNone
	}
	gone, end := m.l[at], len(m.l)-1
	m.l[at] = m.l[end]
	m.l, m.moves = m.l[:end], 0
	if at < end {
		m.mend(at)
	}
	return gone, 0
}

func (m *model) turn(name string, rank int64) api.Errno {
	at := m.find(name)
	if at < 0 {
		return api.ErrNone
	}
	m.l[at].Rank, m.moves = rank, 0
	m.mend(at)
	return 0
}

func (m *model) pop() (api.Entry, api.Errno) {
	if len(m.l) == 0 {
		return api.Entry{}, api.ErrNone
	}
	return m.take(m.l[0].Name)
}

// build is Build, and the number of the entry that is known (-1: none).
func build(most bool, l []api.Entry) (*model, int) {
	m := &model{most: most}
	for i, e := range l {
		if m.find(e.Name) >= 0 {
			return nil, i
		}
		m.l = append(m.l, e)
	}
	for i := len(l) - 1; i >= 0; i-- {
		// Of a place without a kid there is nothing to be done.
		m.down(i)
	}
	return m, -1
}

func (m *model) fork() *model { return &model{m.most, slices.Clone(m.l), m.moves} }

// sorted is all entries in their order.
func (m *model) sorted() []api.Entry {
	l := slices.Clone(m.l)
	slices.SortFunc(l, compare)
	if m.most {
		slices.Reverse(l)
	}
	return l
}

// agrees holds all that a heap tells against what it must, and the heap's own laws.
func (m *model) agrees(t *testing.T, what any, h *Heap) {
	t.Helper()
	l := h.List()
	if !slices.Equal(l, m.l) || h.Len() != len(m.l) || h.Moves() != m.moves {
		t.Fatalf("%.300v: %.500v lie there, %d, in %d moves, not %.500v in %d", what, l, h.Len(), h.Moves(), m.l, m.moves)
	}
	if got, want := h.Sorted(), m.sorted(); !slices.Equal(got, want) {
		t.Fatalf("%.300v: sorted %.500v, not %.500v", what, got, want)
	}
	var top *api.Entry
	if len(l) > 0 {
		top = &m.sorted()[0]
	}
	got, some := h.Top()
	has(t, what, got, some, top)
	for i, e := range l {
		if i > 0 && m.ahead(e, l[(i-1)/2]) {
			t.Fatalf("%.300v: %v at %d is ahead of what lies above it in %.500v", what, e, i, l)
		}
		got, some := h.Get(e.Name)
		has(t, what, got, some, &e)
	}
	for _, name := range append(someNames, "none") {
		if m.find(name) < 0 {
			got, some := h.Get(name)
			has(t, name, got, some, nil)
		}
	}
}

// bounded holds the moves of a call against the number of entries ahead of it and behind it.
func bounded(t *testing.T, h *Heap, ahead int) {
	t.Helper()
	if most := num.Log(max(ahead, h.Len())); h.Moves() > most {
		t.Fatalf("%d moves, of %d and %d entries", h.Moves(), ahead, h.Len())
	}
}

// Names that begin as others do, or are no UTF-8; ranks that are the same, and the outermost.
var (
	someNames = []string{"", "a", "aa", "ab", "b", "B", "\x00", "a\x00", "\xff", "é", "10", "9", strings.Repeat("n", 300)}
	someRanks = []int64{0, 0, 1, 1, -1, 2, 3, 4, 5, 6, 7, math.MaxInt64, math.MaxInt64 - 1, math.MinInt64, math.MinInt64 + 1}
)

func someEntry(d sample.Draw) api.Entry {
	return api.Entry{Rank: sample.One(d, someRanks...), Name: sample.One(d, someNames...)}
}

// unlike is entries of which each has a name of its own, in an order that is drawn.
func unlike(d sample.Draw, many, ranks int) []api.Entry {
	var l []api.Entry
	for i := range many {
		l = slices.Insert(l, d(len(l)+1), api.Entry{Rank: int64(d(ranks)) - int64(ranks/2), Name: "n" + strconv.Itoa(i)})
	}
	return l
}

// put is a heap into which entries were put, one behind the other.
func put(t *testing.T, most bool, l []api.Entry) *Heap {
	t.Helper()
	h := New(most)
	for _, e := range l {
		fails(t, e, h.Put(e), 0)
	}
	return h
}

// built is a heap that was built of them.
func built(t *testing.T, most bool, l []api.Entry) *Heap {
	t.Helper()
	h, err := Build(most, l)
	fails(t, l, err, 0)
	return h
}

// popped is all that a heap pops, to its end.
func popped(t *testing.T, h *Heap) []api.Entry {
	t.Helper()
	var l []api.Entry
	for h.Len() > 0 {
		ahead := h.Len()
		e, err := h.Pop()
		fails(t, "Pop", err, 0)
		bounded(t, h, ahead)
		l = append(l, e)
	}
	return l
}
