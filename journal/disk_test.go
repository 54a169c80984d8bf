package journal

import (
	"fmt"
	"math"
	"slices"
	"strings"
	"testing"

	"weir/api"
	"weir/key"
	"weir/sample"
)

// modelFile is a file, as the words of the chapter have it.
type modelFile struct{ name, durable, now string }

// modelDisk is what a disk must be. Which call fails is kept as its number among all changing calls.
type modelDisk struct {
	capacity       int
	files          []modelFile
	calls          int
	failAt, stopAt int // 0: none
}

func (m *modelDisk) find(name string) int {
	return slices.IndexFunc(m.files, func(f modelFile) bool { return f.name == name })
}

func (m *modelDisk) used() int {
	n := 0
	for _, f := range m.files {
		n += len(f.now)
	}
	return n
}

// call counts a changing call; false: it fails.
func (m *modelDisk) call() bool {
	m.calls++
	return m.calls != m.failAt && (m.stopAt == 0 || m.calls < m.stopAt)
}

// try does a changing call, if e is no error and the disk does not fail.
func (m *modelDisk) try(e api.Errno, do func()) api.Errno {
	if e != 0 {
		return e
	}
	if !m.call() {
		return api.ErrIO
	}
	do()
	return 0
}

func (m *modelDisk) create(name string) api.Errno {
	var e api.Errno
	if key.Name(name) != nil {
		e = api.ErrName
	} else if m.find(name) >= 0 {
		e = api.ErrKnown
	} else if len(m.files) == 16 {
		e = api.ErrFull
	}
	return m.try(e, func() { m.files = append(m.files, modelFile{name: name}) })
}

func (m *modelDisk) put(name, b string) api.Errno {
	var e api.Errno
	at := m.find(name)
	if at < 0 {
		e = api.ErrFile
	} else if m.used()+len(b) > m.capacity {
		e = api.ErrFull
	}
	return m.try(e, func() { m.files[at].now += b })
}

func (m *modelDisk) sync(name string) api.Errno {
	at := m.find(name)
	if at < 0 {
		return api.ErrFile
	}
	return m.try(0, func() { m.files[at].durable = m.files[at].now })
}

func (m *modelDisk) remove(name string) api.Errno {
	at := m.find(name)
	if at < 0 {
		return api.ErrFile
	}
	return m.try(0, func() { m.files = slices.Delete(m.files, at, at+1) })
}

func (m *modelDisk) rename(old, now string) api.Errno {
	at := m.find(old)
	if at < 0 {
		return api.ErrFile
	}
	if key.Name(now) != nil {
		return api.ErrName
	}
	return m.try(0, func() {
		if old == now {
			return
		}
		f := m.files[at]
		f.name = now
		m.files = slices.DeleteFunc(m.files, func(x modelFile) bool { return x.name == old || x.name == now })
		m.files = append(m.files, f)
	})
}

func (m *modelDisk) fail(n int) {
	m.failAt = 0
	if n > 0 {
		m.failAt = m.calls + n
	}
}

func (m *modelDisk) stop(n int) {
	m.stopAt = 0
	if n > 0 {
		m.stopAt = m.calls + n
	}
}

// crash tells the error and the number of the fate that has it.
func (m *modelDisk) crash(l []api.Fate) (api.Errno, int) {
	next := slices.Clone(m.files)
	for i := range next {
		next[i].now = next[i].durable
	}
	seen := ""
	for i, fate := range l {
		at := m.find(fate.Name)
		if at < 0 {
			return api.ErrFile, i
		}
		f := m.files[at]
		if strings.Contains(seen, "/"+fate.Name+"/") || fate.Keep < 0 || fate.Keep > len(f.now)-len(f.durable) {
			return api.ErrFate, i
		}
		seen += "/" + fate.Name + "/"
		next[at].now = f.now[:len(f.durable)+fate.Keep]
	}
	for i := range next {
		next[i].durable = next[i].now
	}
	m.files, m.failAt, m.stopAt = next, 0, 0
	return 0, none
}

func (m *modelDisk) fork() *modelDisk {
	other := *m
	other.files = slices.Clone(m.files)
	return &other
}

// agrees holds all that a disk tells against the model.
func (m *modelDisk) agrees(t *testing.T, d *Disk) {
	t.Helper()
	var want []api.Image
	for _, f := range slices.SortedFunc(slices.Values(m.files), func(a, b modelFile) int { return strings.Compare(a.name, b.name) }) {
		want = append(want, api.Image{Name: f.name, Durable: []byte(f.durable), Now: []byte(f.now)})
		b, err := d.Read(f.name)
		well(t, f.name, err)
		is(t, f.name, string(b), f.now)
	}
	is(t, "Images", d.Images(), want)
	is(t, "Free", d.Free(), m.capacity-m.used())
	b, err := d.Read("not there")
	refused(t, "Read", err, api.ErrFile)
	is(t, "Read", b, []byte(nil))
}

// step makes one drawn call of both.
func (m *modelDisk) step(t *testing.T, d *Disk, r sample.Draw, seen map[string]int) {
	t.Helper()
	names := []string{"a", "b", "c", "snap", "log", "snap.new", "é", "x y"}
	if m.capacity > 100 {
		for i := range 12 {
			names = append(names, fmt.Sprint("n", i))
		}
	}
	name := sample.One(r, names...)
	other := sample.One(r, append(names, name, "", "\x00", strings.Repeat("n", api.MaxName+1), "\xff")...)
	var err error
	var e api.Errno
	index, what := none, ""
	switch r(14) {
	case 0, 1, 2:
		what, err, e = "Create", d.Create(other), m.create(other)
	case 3, 4, 5:
		b := strings.Repeat("x", r(4)) + strings.Repeat("y", r(8))
		what, err, e = "Append", d.Append(name, []byte(b)), m.put(name, b)
	case 6, 7:
		what, err, e = "Sync", d.Sync(name), m.sync(name)
	case 8:
		what, err, e = "Rename", d.Rename(name, other), m.rename(name, other)
	case 9:
		what, err, e = "Remove", d.Remove(name), m.remove(name)
	case 10:
		n := sample.One(r, r(9), -1, math.MinInt, math.MaxInt)
		d.Fail(n)
		if n == math.MaxInt {
			n = 1 << 40
		}
		m.fail(n)
	case 11:
		n := sample.One(r, r(9), r(9), 0, -1, math.MinInt)
		d.Stop(n)
		m.stop(n)
	default:
		var l []api.Fate
		for _, f := range m.files {
			if r(3) == 0 {
				l = append(l, api.Fate{Name: f.name, Keep: r(len(f.now) - len(f.durable) + 1)})
			}
		}
		if r(4) == 0 {
			l = append(l, api.Fate{Name: name, Keep: r(3) - 1})
		}
		what, err = "Crash", d.Crash(l)
		e, index = m.crash(l)
	}
	fails(t, what, err, e, none, index)
	seen[fmt.Sprint(what, " ", word(e))]++
}

// word is an error's number as a word.
func word(e api.Errno) string {
	if e == 0 {
		return "ok"
	}
	return fmt.Sprint(int(e))
}

// P27.1, P27.2, P4: whatever the calls, each answers what it must, and leaves what it must.
func TestAnyDiskCalls(t *testing.T) {
	r := draw()
	seen := map[string]int{}
	for i := range 400 {
		capacity := []int{1, 12, 30, 60, 500}[i%5]
		d, m := disk(t, capacity), &modelDisk{capacity: capacity}
		if capacity > 100 {
			for i := range 13 {
				name := fmt.Sprint("n", i)
				is(t, name, d.Create(name) == nil, m.create(name) == 0)
			}
		}
		for range 80 {
			m.step(t, d, r, seen)
			m.agrees(t, d)
			if r(12) > 0 {
				continue
			}
			// What is left behind goes its own way.
			left, leftModel := d, m.fork()
			d = d.Fork()
			for range 5 {
				leftModel.step(t, left, r, seen)
			}
			leftModel.agrees(t, left)
			m.agrees(t, d)
			if again, err := Load(capacity, d.Images()); err != nil {
				t.Fatal(err)
			} else {
				m.agrees(t, again)
			}
		}
	}
	io, full := word(api.ErrIO), word(api.ErrFull)
	for _, what := range []string{
		"Create ok", "Create 50", "Create 5", "Create " + full, "Create " + io, "Append ok", "Append 270", "Append " + full, "Append " + io,
		"Sync ok", "Sync 270", "Sync " + io, "Rename ok", "Rename 270", "Rename 50", "Rename " + io, "Remove ok", "Remove 270", "Remove " + io,
		"Crash ok", "Crash 270", "Crash 272",
	} {
		if seen[what] < 20 {
			t.Errorf("%s: %d times", what, seen[what])
		}
	}
}

// P27.1: what a disk may be made of.
func TestNewDisk(t *testing.T) {
	for _, n := range []int{0, -1, math.MinInt, api.MaxDisk + 1, math.MaxInt} {
		d, err := NewDisk(n)
		refused(t, n, err, api.ErrRange)
		is(t, n, d == nil, true)
		// The capacity is looked at ahead of the images.
		d, err = Load(n, make([]api.Image, api.MaxFiles+1))
		refused(t, n, err, api.ErrRange)
		is(t, n, d == nil, true)
	}
	for _, n := range []int{1, 100000, api.MaxDisk} {
		d := disk(t, n)
		is(t, n, d.Free(), n)
		is(t, n, d.Images(), []api.Image(nil))
	}
}

func TestLoadDisk(t *testing.T) {
	image := func(name, durable, now string) api.Image {
		return api.Image{Name: name, Durable: []byte(durable), Now: []byte(now)}
	}
	many := make([]api.Image, api.MaxFiles)
	for i := range many {
		many[i] = image(fmt.Sprint("f", i), "", "x")
	}
	type wrong struct {
		l     []api.Image
		e     api.Errno
		index int
	}
	for what, w := range map[string]wrong{
		"too many":                        {append(slices.Clone(many), image("more", "", "")), api.ErrFull, none},
		"too many, and wrong":             {append(slices.Clone(many), image("", "", "")), api.ErrFull, none},
		"no name":                         {[]api.Image{image("a", "", ""), image("", "", "")}, api.ErrName, 1},
		"a name twice":                    {[]api.Image{image("a", "", ""), image("b", "", ""), image("a", "x", "")}, api.ErrKnown, 2},
		"durable is longer":               {[]api.Image{image("a", "xy", "x")}, api.ErrForm, 0},
		"durable is another one":          {[]api.Image{image("a", "x", "yx")}, api.ErrForm, 0},
		"wrong ahead of too much":         {[]api.Image{image("a", "y", strings.Repeat("x", 21))}, api.ErrForm, 0},
		"too much at once":                {[]api.Image{image("a", "x", strings.Repeat("x", 21))}, api.ErrFull, 0},
		"too much in all":                 {[]api.Image{image("a", "", "0123456789"), image("b", "", "0123456789"), image("c", "", ""), image("d", "", "x")}, api.ErrFull, 3},
		"no name behind what is too much": {[]api.Image{image("a", "", strings.Repeat("x", 21)), image("", "", "")}, api.ErrFull, 0},
	} {
		d, err := Load(20, w.l)
		fails(t, what, err, w.e, none, w.index)
		is(t, what, d == nil, true)
	}
	d := loaded(t, 20, many...)
	is(t, "Free", d.Free(), 4)
	refused(t, "Create", d.Create("more"), api.ErrFull)
	d = loaded(t, 20, image("b", "0123", "0123456789"), image("a", "", "0123456789"))
	is(t, "Images", d.Images(), []api.Image{image("a", "", "0123456789"), image("b", "0123", "0123456789")})
	refused(t, "Append", d.Append("a", []byte{1}), api.ErrFull)
	well(t, "Append", d.Append("a", nil))
}

// P27.2: the two numbers, by hand.
func TestFailAndStop(t *testing.T) {
	d := disk(t, 100)
	well(t, "Create", d.Create("a"))
	d.Fail(2)
	refused(t, "a call that is refused does not count", d.Sync("b"), api.ErrFile)
	well(t, "the first", d.Sync("a"))
	refused(t, "no name, ahead of a disk that fails", d.Create(""), api.ErrName)
	refused(t, "the second", d.Append("a", []byte("x")), api.ErrIO)
	is(t, "Free", d.Free(), 100)
	well(t, "the third", d.Append("a", []byte("x")))
	d.Stop(1)
	d.Fail(2)
	for range 3 {
		refused(t, "stopped", d.Rename("a", "a"), api.ErrIO)
		refused(t, "stopped, and wrong", d.Rename("b", "a"), api.ErrFile)
	}
	d.Stop(-1)
	well(t, "a Stop ends it, and Fail has passed by", d.Remove("a"))
	d.Stop(1)
	refused(t, "stopped anew", d.Create("b"), api.ErrIO)
	d.Fail(1)
	well(t, "Crash", d.Crash(nil))
	well(t, "a crash ends both", d.Create("b"))
	d.Fail(1)
	d.Fail(0)
	well(t, "none any more", d.Sync("b"))
	d.Stop(3)
	well(t, "Sync", d.Sync("b"))
	d.Stop(2)
	well(t, "counted anew", d.Sync("b"))
	refused(t, "Sync", d.Sync("b"), api.ErrIO)
	other := d.Fork()
	refused(t, "a fork is stopped, too", other.Sync("b"), api.ErrIO)
	well(t, "Crash", other.Crash(nil))
	refused(t, "what becomes of it is its own", d.Sync("b"), api.ErrIO)
}

// P1: of a nil disk.
func TestNilDisk(t *testing.T) {
	var d *Disk
	d.Fail(1)
	d.Stop(1)
	is(t, "Images", d.Images(), []api.Image(nil))
	is(t, "Fork", d.Fork() == nil, true)
	is(t, "Free", d.Free(), 0)
	b, err := d.Read("a")
	refused(t, "Read", err, api.ErrNil)
	is(t, "Read", len(b), 0)
	for what, err := range map[string]error{
		"Create": d.Create(""), "Append": d.Append("a", nil), "Sync": d.Sync("a"), "Rename": d.Rename("a", ""), "Remove": d.Remove("a"),
		"Crash": d.Crash([]api.Fate{{Name: "a"}}),
	} {
		refused(t, what, err, api.ErrNil)
	}
}

// P3: what is handed in stays as it is, what is answered is the caller's.
func TestDiskMemory(t *testing.T) {
	now := sample.Room([]byte("0123456789"), 99)
	list := sample.Room([]api.Image{{Name: "a", Durable: now[:4], Now: now}}, api.Image{Name: "spare"})
	want := fmt.Sprint(sample.Spare(now), sample.Spare(list))
	d := loaded(t, 100, list...)
	well(t, "Append", d.Append("a", now[:3]))
	well(t, "Crash", d.Fork().Crash(nil))
	is(t, "what was handed in", fmt.Sprint(sample.Spare(now), sample.Spare(list)), want)
	told := fmt.Sprint(d.Images())
	sample.Fill(now, 7)
	sample.Fill(list, api.Image{})
	for range 2 {
		for _, image := range d.Images() {
			sample.Fill(image.Durable, 7)
			sample.Fill(image.Now, 8)
		}
		b, err := d.Read("a")
		well(t, "Read", err)
		sample.Fill(b, 9)
	}
	is(t, "what was answered", fmt.Sprint(d.Images()), told)
	b := sample.Room([]byte("xyz"), 98)
	well(t, "Append", d.Append("a", b))
	sample.Fill(b, 1)
	b, err := d.Read("a")
	well(t, "Read", err)
	is(t, "Read", string(b), "0123456789012xyz")
	other := d.Fork()
	well(t, "Append", other.Append("a", []byte("b")))
	well(t, "Append", d.Append("a", []byte("a")))
	b, _ = other.Read("a")
	is(t, "the fork's", string(b), "0123456789012xyzb")
}
