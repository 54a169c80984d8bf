package journal

import (
	"fmt"
	"math"
	"slices"
	"testing"

	"weir/api"
	"weir/engine"
	"weir/fault"
	"weir/sample"
	"weir/wire"
)

// call is a call of a disk.
type call func(d *Disk) error

func create(name string) call        { return func(d *Disk) error { return d.Create(name) } }
func put(name string, b []byte) call { return func(d *Disk) error { return d.Append(name, b) } }
func syncing(name string) call       { return func(d *Disk) error { return d.Sync(name) } }
func renaming(name, now string) call { return func(d *Disk) error { return d.Rename(name, now) } }
func removing(name string) call      { return func(d *Disk) error { return d.Remove(name) } }
func placing(n string, b []byte) []call {
	return []call{create(n + ".new"), put(n+".new", b), syncing(n + ".new"), renaming(n+".new", n)}
}

// makes holds that something makes just these calls of a disk, in this order: with each of them refused, and with
// none, it leaves what these calls leave that stand ahead. What begins a try makes what is to be tried, of a disk.
func makes(t *testing.T, what string, first *Disk, begin func(d *Disk) func() error, calls ...call) {
	t.Helper()
	want := first.Fork()
	begin(want)
	for n := 0; n <= len(calls); n++ {
		for _, arm := range []func(d *Disk){func(d *Disk) { d.Stop(n + 1) }, func(d *Disk) { d.Fail(n + 1) }} {
			d := first.Fork()
			try := begin(d)
			arm(d)
			if err := try(); n < len(calls) {
				refused(t, fmt.Sprint(what, ", refused at ", n), err, api.ErrIO)
			} else {
				well(t, what, err)
			}
			is(t, fmt.Sprint(what, ", refused at ", n), d.Images(), want.Images())
		}
		if n < len(calls) {
			well(t, fmt.Sprint(what, ", the call ", n), calls[n](want))
		}
	}
}

// opening is what Open does.
func opening(d *Disk) func() error {
	return func() error {
		_, err := Open(d, tables(), series, points)
		return err
	}
}

// P27.3: which calls of the disk Open makes.
func TestOpenCalls(t *testing.T) {
	snap, log := snapOf(t, 0, fresh(t)), logOf(t, 0, one(4, 10))
	torn := append(slices.Clone(log), 1, 2, 3)
	makes(t, "an empty disk", disk(t, 100000), opening,
		slices.Concat(placing("snap", snap), []call{syncing("snap")}, placing("log", logOf(t, 0)))...)
	makes(t, "all is well", loaded(t, 100000, api.Image{Name: "snap", Durable: snap[:7], Now: snap}, api.Image{Name: "log", Durable: log[:9], Now: log}), opening,
		syncing("snap"), syncing("log"))
	makes(t, "something is lost", loaded(t, 100000, durable("snap", snap), durable("log", torn)), opening,
		append([]call{syncing("snap")}, placing("log", log)...)...)
	makes(t, "no log", loaded(t, 100000, durable("snap", snap)), opening,
		append([]call{syncing("snap")}, placing("log", logOf(t, 0))...)...)
	makes(t, "a log of another generation", loaded(t, 100000, durable("snap", snapOf(t, 7, fresh(t))), durable("log", log)), opening,
		append([]call{syncing("snap")}, placing("log", logOf(t, 7))...)...)
	makes(t, "no snap, but a log", loaded(t, 100000, durable("log", log)), opening,
		append(placing("snap", snap), syncing("snap"), syncing("log"))...)
	makes(t, "what was left", loaded(t, 100000, durable("log.new", log), durable("snap.new", snap), durable("other", log)), opening,
		slices.Concat([]call{removing("snap.new"), removing("log.new")}, placing("snap", snap), []call{syncing("snap")}, placing("log", logOf(t, 0)))...)
	makes(t, "what was left of a snap", loaded(t, 100000, durable("snap.new", nil), durable("snap", snap), durable("log", log)), opening,
		removing("snap.new"), syncing("snap"), syncing("log"))
}

// P27.4, P27.5: which calls of the disk the others make.
func TestStoreCalls(t *testing.T) {
	base := disk(t, 100000)
	_, err := open(t, base).Register(mean)
	well(t, "Register", err)
	does := func(do func(s *Store) error) func(d *Disk) func() error {
		return func(d *Disk) func() error {
			s := open(t, d)
			return func() error { return do(s) }
		}
	}
	record := func(op []byte) []call {
		return []call{put("log", seal(t, 2, 1, op)), syncing("log")}
	}
	makes(t, "Register", base, does(func(s *Store) error {
		_, err := s.Register("select  max(v) into top from cpu group by time(60m)")
		return err
	}), record(opOf(1, "select  max(v) into top from cpu group by time(60m)"))...)
	makes(t, "Drop", base, does(func(s *Store) error { return s.Drop(1) }), record([]byte{2, 2})...)
	makes(t, "Delete", base, does(func(s *Store) error {
		_, err := s.Delete("cpu", " host = 'a'", -5, math.MaxInt64)
		return err
	}), record(with(opOf(4, "cpu", " host = 'a'"), -5, math.MaxInt64))...)
	makes(t, "Expire", base, does(func(s *Store) error {
		_, err := s.Expire("cpu", -3600000000000)
		return err
	}), record(with(opOf(5, "cpu"), -3600000000000))...)
	makes(t, "Points of none", base, does(func(s *Store) error {
		_, err := s.Points(nil)
		return err
	}), record([]byte{3, 0})...)
	makes(t, "Points", base, does(func(s *Store) error {
		_, err := s.Points([]api.Point{
			{Measure: "cpu", Tags: []api.Tag{{Key: "zone", Value: "z 1"}, {Key: "host", Value: "a"}}, Fields: []api.Field{field("w", math.MinInt64), field("v", 300)}, Time: -api.MaxTime},
			{Measure: "cpu", Fields: []api.Field{field("v", -1)}},
		})
		return err
	}), record(bytesOf(func(w *wire.Writer) {
		w.Byte(3)
		w.Uint(2)
		w.Text("cpu")
		w.Uint(2)
		w.Text("zone")
		w.Text("z 1")
		w.Text("host")
		w.Text("a")
		w.Uint(2)
		w.Text("w")
		w.Int(math.MinInt64)
		w.Text("v")
		w.Int(300)
		w.Int(-api.MaxTime)
		w.Text("cpu")
		w.Uint(0)
		w.Uint(1)
		w.Text("v")
		w.Int(-1)
		w.Int(0)
	}))...)
	e := fresh(t)
	_, err = e.Register(mean)
	well(t, "Register", err)
	makes(t, "Compact", base, does((*Store).Compact), append(placing("snap", snapOf(t, 1, e)), placing("log", logOf(t, 1))...)...)
}

// P27.4: with a disk that fails the store is read-only, and its engine is what it was.
func TestReadOnly(t *testing.T) {
	calls := []deed{
		{"Register", func(e teller) (int, error) {
			return e.Register("SELECT max(v) INTO top FROM cpu GROUP BY time(1h)")
		}},
		{"Drop", func(e teller) (int, error) { return 0, e.Drop(1) }},
		{"Points", func(e teller) (int, error) { return e.Points([]api.Point{point("a", 1, field("v", 5))}) }},
		{"Delete", func(e teller) (int, error) { return e.Delete("cpu", "", 0, 9) }},
		{"Expire", func(e teller) (int, error) { return e.Expire("cpu", 0) }},
	}
	wrong := []deed{
		{"Register", func(e teller) (int, error) { return e.Register("SELECT") }},
		{"Drop", func(e teller) (int, error) { return 0, e.Drop(7) }},
		{"Points", func(e teller) (int, error) { return e.Points([]api.Point{{}}) }},
		{"Delete", func(e teller) (int, error) { return e.Delete("nope", "", 0, 9) }},
		{"Expire", func(e teller) (int, error) { return e.Expire("cpu", 5) }},
	}
	base := disk(t, 100000)
	s := open(t, base)
	for _, c := range []deed{{"Register", func(e teller) (int, error) { return e.Register(mean) }}, calls[2]} {
		_, err := c.do(s)
		well(t, c.name, err)
	}
	for _, c := range calls {
		for n := 1; n <= 2; n++ {
			d := base.Fork()
			s := open(t, d)
			d.Fail(n)
			ahead := s.Engine()
			answer, err := c.do(s)
			refused(t, c.name, err, api.ErrIO)
			is(t, c.name, answer, 0)
			is(t, "ReadOnly", s.ReadOnly(), true)
			is(t, "Records", s.Records(), 2)
			is(t, c.name, s.Engine().Save(), ahead.Save())
			is(t, c.name, s.Engine().Steps(), ahead.Steps())
			left := state(s, d)
			for i, again := range calls {
				_, err := again.do(s)
				refused(t, again.name, err, api.ErrReadOnly)
				// What the engine refuses is told ahead of it.
				_, err = wrong[i].do(s)
				_, no := wrong[i].do(ahead.Fork())
				like(t, wrong[i].name, err, no)
			}
			refused(t, "Compact", s.Compact(), api.ErrReadOnly)
			is(t, "what is left", state(s, d), left)
			// The record is there, if it was appended: the next store does it.
			is(t, c.name, open(t, d).Records(), 1+n)
		}
	}
	for _, c := range wrong {
		left := state(s, base)
		answer, err := c.do(s)
		_, no := c.do(s.Engine())
		like(t, c.name, err, no)
		is(t, c.name, answer, 0)
		is(t, "what is left", state(s, base), left)
	}
}

// P27.4: a disk without room refuses a call, and goes on; files that somebody took away make the store read-only.
func TestNoRoom(t *testing.T) {
	size := len(snapOf(t, 0, fresh(t))) + len(logOf(t, 0))
	record := len(seal(t, 2, 0, one(4, 10)))
	d := disk(t, size+record)
	s := open(t, d)
	two := []api.Point{point("", 10, field("v", 4)), point("", 20, field("v", 4))}
	left := state(s, d)
	_, err := s.Points(two)
	refused(t, "Points", err, api.ErrFull)
	is(t, "what is left", state(s, d), left)
	n, err := s.Points(two[:1])
	well(t, "Points", err)
	is(t, "Points", n, 1)
	is(t, "Free", d.Free(), 0)
	_, err = s.Points(nil)
	refused(t, "Points", err, api.ErrFull)
	is(t, "ReadOnly", s.ReadOnly(), false)
	is(t, "Records", s.Records(), 1)

	well(t, "Remove", d.Remove("log"))
	_, err = s.Points(two)
	refused(t, "Points", err, api.ErrFile)
	is(t, "ReadOnly", s.ReadOnly(), true)
	_, err = s.Points(two)
	refused(t, "Points", err, api.ErrReadOnly)
}

// P27.5: a disk without room for a snap refuses Compact, and goes on.
func TestCompactNoRoom(t *testing.T) {
	snap, log := snapOf(t, 0, fresh(t)), logOf(t, 0)
	files := []api.Image{durable("snap", snap), durable("log", log)}
	tight := func(spare int) *Disk { return loaded(t, len(snap)+len(log)+spare, files...) }

	d := tight(len(snap) - 1)
	s := open(t, d)
	left := state(s, d)
	for range 2 {
		refused(t, "Compact", s.Compact(), api.ErrFull)
		is(t, "what is left", state(s, d), left)
	}
	_, err := s.Points(nil)
	well(t, "Points", err)

	// The snap is not appended, which is no changing call; what was created cannot be removed.
	d = tight(len(snap) - 1)
	s = open(t, d)
	d.Fail(2)
	refused(t, "Compact", s.Compact(), api.ErrFull)
	is(t, "ReadOnly", s.ReadOnly(), true)
	is(t, "Images", d.Images(), []api.Image{durable("log", log), durable("snap", snap), {Name: "snap.new"}})
	is(t, "Generation", s.Generation(), 0)

	full := slices.Clone(files)
	for i := range api.MaxFiles - 2 {
		full = append(full, durable(fmt.Sprint("other", i), nil))
	}
	d = loaded(t, 100000, full...)
	s = open(t, d)
	left = state(s, d)
	refused(t, "Compact", s.Compact(), api.ErrFull)
	is(t, "what is left", state(s, d), left)
	well(t, "Remove", d.Remove("other3"))
	well(t, "Compact", s.Compact())
	is(t, "Generation", s.Generation(), 1)

	// A snap just has room: what it takes the place of leaves some for the head.
	d = tight(len(snap))
	s = open(t, d)
	well(t, "Compact", s.Compact())
	is(t, "Generation", s.Generation(), 1)
	is(t, "Free", d.Free(), len(snap))
}

// P27.5: the last generation.
func TestLastGeneration(t *testing.T) {
	d := loaded(t, 100000, durable("snap", snapOf(t, 1<<31-2, fresh(t))))
	s := open(t, d)
	is(t, "Generation", s.Generation(), 1<<31-2)
	well(t, "Compact", s.Compact())
	_, err := s.Register(mean)
	well(t, "Register", err)
	left := state(s, d)
	refused(t, "Compact", s.Compact(), api.ErrLong)
	is(t, "what is left", state(s, d), left)
	s = open(t, d)
	is(t, "Generation", s.Generation(), 1<<31-1)
	is(t, "Records", s.Records(), 1)
	is(t, "Queries", s.Engine().Queries(), []int{1})
	d.Stop(1)
	_, err = s.Points(nil)
	refused(t, "Points", err, api.ErrIO)
	refused(t, "Compact", s.Compact(), api.ErrReadOnly)
}

// P1: of a nil store.
func TestNilStore(t *testing.T) {
	var s *Store
	for _, c := range []deed{
		{"Register", func(e teller) (int, error) { return e.Register("") }},
		{"Drop", func(e teller) (int, error) { return 0, e.Drop(1) }},
		{"Points", func(e teller) (int, error) { return e.Points(nil) }},
		{"Delete", func(e teller) (int, error) { return e.Delete("", "", 1, 0) }},
		{"Expire", func(e teller) (int, error) { return e.Expire("", 0) }},
	} {
		n, err := c.do(s)
		refused(t, c.name, err, api.ErrNil)
		is(t, c.name, n, 0)
	}
	refused(t, "Compact", s.Compact(), api.ErrNil)
	is(t, "Engine", s.Engine() == nil, true)
	is(t, "the others", fmt.Sprint(s.Generation(), s.Records(), s.Lost(), s.ReadOnly()), "0 0 0 false")
	s, err := Open(nil, nil, -1, -1)
	refused(t, "Open", err, api.ErrNil)
	is(t, "Open", s == nil, true)
}

// P3, P4: what Engine answers is the caller's, and what is handed in stays as it is.
func TestStoreMemory(t *testing.T) {
	d := disk(t, 100000)
	schema := tables()
	s, err := Open(d, schema, series, points)
	well(t, "Open", err)
	sample.Fill(schema[0].Tags, "spoilt")
	sample.Fill(schema, api.Table{})
	l := sample.Room([]api.Point{point("a", 1, field("v", 5))}, api.Point{Time: 99})
	l[0].Tags, l[0].Fields = sample.Room(l[0].Tags, api.Tag{Key: "spare"}), sample.Room(l[0].Fields, field("spare", 1))
	all := func() string {
		return fmt.Sprint(sample.Spare(l), sample.Spare(l[0].Tags), sample.Spare(l[0].Fields))
	}
	want := all()
	_, err = s.Points(l)
	well(t, "Points", err)
	is(t, "what was handed in", all(), want)
	told := state(s, d)
	sample.Fill(l[0].Tags, api.Tag{})
	sample.Fill(l[0].Fields, field("spoilt", 7))
	e := s.Engine()
	_, err = e.Register(mean)
	well(t, "Register", err)
	_, err = e.Delete("cpu", "", 0, 9)
	well(t, "Delete", err)
	is(t, "what is kept", state(s, d), told)
	is(t, "what is read", open(t, d).Engine().Save(), s.Engine().Save())
}

// P27.7, P27.8, P27.9: a store that its disk does not refuse answers as its engine would; to compact, and to open
// anew, changes nothing that is told.
func TestStoreAnswersAsItsEngine(t *testing.T) {
	r := draw()
	done, wrong := map[string]int{}, map[string]int{}
	for range 40 {
		d := disk(t, api.MaxDisk)
		s, e := open(t, d), fresh(t)
		records, generation := 0, 0
		for range 50 {
			c := someDeed(r)
			ahead := state(s, d)
			n, err := c.do(s)
			// A call that is refused is not made at all: it leaves the steps of the one ahead.
			next := e.Fork()
			want, no := c.do(next)
			like(t, c.name, err, no)
			is(t, c.name, n, want)
			if no == nil {
				e = next
				records++
				done[c.name]++
			} else {
				is(t, c.name, state(s, d), ahead)
				wrong[c.name]++
			}
			is(t, "Steps", s.Engine().Steps(), e.Steps())
			switch r(20) {
			case 0:
				well(t, "Compact", s.Compact())
				records, generation = 0, generation+1
				is(t, "Steps", s.Engine().Steps(), e.Steps())
			case 1, 2:
				s = open(t, d)
				if records == 0 {
					// An engine's bytes do not tell the steps of its last call.
					loaded, err := engine.Load(e.Save())
					well(t, "Load", err)
					e = loaded
				}
			}
			is(t, "all that is told", s.Engine().Save(), e.Save())
			is(t, "Steps", s.Engine().Steps(), e.Steps())
			is(t, "the numbers", fmt.Sprint(s.Generation(), s.Records(), s.Lost(), s.ReadOnly()), fmt.Sprint(generation, records, 0, false))
			tidied(t, d)
		}
	}
	for _, what := range []string{"Register", "Drop", "Points", "Delete", "Expire"} {
		if done[what] < 20 || wrong[what] < 10 {
			t.Errorf("%s was done %d times, and refused %d times", what, done[what], wrong[what])
		}
	}
}

// tidied holds that a disk has a snap and a log, both synced, and nothing else (P27.9).
func tidied(t *testing.T, d *Disk) {
	t.Helper()
	var names []string
	for _, image := range d.Images() {
		names = append(names, image.Name)
		is(t, image.Name, len(image.Durable), len(image.Now))
	}
	is(t, "the files", names, []string{"log", "snap"})
}

// Chapter 27's examples.
func TestStoreExamples(t *testing.T) {
	d := disk(t, 100000)
	s := open(t, d)
	tidied(t, d)
	is(t, "a new one", fmt.Sprint(s.Generation(), s.Records()), "0 0")
	id, err := s.Register(mean)
	well(t, "Register", err)
	is(t, "Register", id, 1)
	is(t, "Records", s.Records(), 1)
	well(t, "Crash", d.Crash(nil))
	s = open(t, d)
	is(t, "Queries", s.Engine().Queries(), []int{1})
	is(t, "Lost", s.Lost(), 0)

	l := []api.Point{point("a", 10, field("v", 4))}
	d.Stop(1)
	_, err = s.Points(l)
	refused(t, "Points", err, api.ErrIO)
	is(t, "ReadOnly", s.ReadOnly(), true)
	_, err = s.Points(l)
	refused(t, "Points", err, api.ErrReadOnly)
	well(t, "Crash", d.Crash(nil))
	s = open(t, d)
	d.Stop(2)
	_, err = s.Points(l)
	refused(t, "Points", err, api.ErrIO)
	well(t, "Crash", d.Crash([]api.Fate{{Name: "log", Keep: 5}}))
	s = open(t, d)
	is(t, "Lost", s.Lost(), 5)
	tidied(t, d)
	is(t, "Lost", open(t, d).Lost(), 0)

	well(t, "Compact", s.Compact())
	is(t, "Compact", fmt.Sprint(s.Generation(), s.Records()), "1 0")
	d.Stop(5)
	refused(t, "Compact", s.Compact(), api.ErrIO)
	is(t, "Compact", fmt.Sprint(s.Generation(), s.ReadOnly()), "1 true")
	snap, err := d.Read("snap")
	well(t, "Read", err)
	is(t, "snap", snap, snapOf(t, 2, s.Engine()))
	log, err := d.Read("log")
	well(t, "Read", err)
	is(t, "log", log, logOf(t, 1))
	well(t, "Crash", d.Crash(nil))
	s = open(t, d)
	is(t, "Open", fmt.Sprint(s.Generation(), s.Records(), s.Engine().Queries()), "2 0 [1]")
}

// P2: a refusal tells what was refused, and why.
func TestRefusal(t *testing.T) {
	err := disk(t, 1).Sync("log")
	is(t, "the text", err.Error(), "sync log: "+api.ErrFile.Error())
	is(t, "the line", fault.Print(err), "file")
}
