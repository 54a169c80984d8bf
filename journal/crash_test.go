package journal

import (
	"bytes"
	"fmt"
	"testing"

	"weir/api"
	"weir/engine"
	"weir/fault"
	"weir/sample"
)

// told is what was told to a store through crashes: what its engine must have done, and the call that it may have
// done besides.
type told struct {
	disk  *Disk
	store *Store
	sure  *engine.Engine
	maybe *deed
	seen  map[string]int
}

// opened opens the store anew, however often that fails; false: the disk has no room for it.
func (w *told) opened(t *testing.T, d sample.Draw) bool {
	t.Helper()
	for {
		s, err := Open(w.disk, tables(), series, points)
		switch fault.Code(err) {
		case 0:
			w.store = s
			w.settles(t)
			tidied(t, w.disk)
			return true
		case api.ErrFull:
			return false
		}
		refused(t, "Open", err, api.ErrIO)
		w.seen["Open refused"]++
		if d(2) > 0 {
			w.crash(t, d)
		} else {
			w.disk.Stop(0)
		}
	}
}

// settles holds what the store's engine has done against what it must have done.
func (w *told) settles(t *testing.T) {
	t.Helper()
	got := w.store.Engine().Save()
	if w.maybe != nil {
		more := w.sure.Fork()
		_, err := w.maybe.do(more)
		well(t, "what may have been done", err)
		if bytes.Equal(got, more.Save()) {
			w.sure = more
			w.seen["one more"]++
		} else {
			w.seen["none more"]++
		}
	}
	w.maybe = nil
	is(t, "what is there", got, w.sure.Save())
	is(t, "ReadOnly", w.store.ReadOnly(), false)
}

// crash lets the power go, with drawn fates.
func (w *told) crash(t *testing.T, d sample.Draw) {
	t.Helper()
	var l []api.Fate
	for _, image := range w.disk.Images() {
		if more := len(image.Now) - len(image.Durable); d(2) > 0 {
			l = append(l, api.Fate{Name: image.Name, Keep: sample.One(d, 0, more, d(more+1))})
		}
	}
	well(t, l, w.disk.Crash(l))
	w.seen["Crash"]++
}

// tell makes a drawn call of the store.
func (w *told) tell(t *testing.T, d sample.Draw) {
	t.Helper()
	if d(10) == 0 {
		err := w.store.Compact()
		w.seen["Compact "+fault.Print(err)]++
		return
	}
	c := someDeed(d)
	next := w.sure.Fork()
	want, no := c.do(next)
	wasReadOnly := w.store.ReadOnly()
	n, err := c.do(w.store)
	switch {
	case no != nil:
		like(t, c.name, err, no)
	case wasReadOnly:
		refused(t, c.name, err, api.ErrReadOnly)
	case err == nil:
		is(t, c.name, n, want)
		w.sure = next
		w.seen["done"]++
	case fault.Code(err) == api.ErrFull:
		is(t, "ReadOnly", w.store.ReadOnly(), false)
		w.seen["full"]++
	default:
		refused(t, c.name, err, api.ErrIO)
		is(t, "ReadOnly", w.store.ReadOnly(), true)
		w.maybe = &c
		w.seen["io"]++
	}
	is(t, "what the engine tells", w.store.Engine().Save(), w.sure.Save())
}

// P27.6 (E15), P27.9: what was answered without an error is there behind every crash, and at most one call more.
func TestNothingToldIsLost(t *testing.T) {
	d := draw()
	seen := map[string]int{}
	for i := range 150 {
		w := &told{disk: disk(t, []int{700, 1200, 3000, 100000}[i%4]), sure: fresh(t), seen: seen}
		for range 12 {
			arm(d, w.disk)
			if !w.opened(t, d) {
				seen["no room to open"]++
				break
			}
			for range d(20) {
				if d(6) == 0 {
					arm(d, w.disk)
				}
				w.tell(t, d)
			}
			if d(3) > 0 {
				w.crash(t, d)
			}
		}
	}
	for _, what := range []string{"Crash", "Open refused", "one more", "none more", "Compact ok", "Compact io", "Compact full", "Compact readonly", "done", "full", "io"} {
		if seen[what] < 50 {
			t.Errorf("%s: %d times", what, seen[what])
		}
	}
	if seen["no room to open"] > 40 {
		t.Error(fmt.Sprint(seen))
	}
}

// arm lets a disk fail, or stop, sooner or later, or not at all.
func arm(d sample.Draw, disk *Disk) {
	disk.Fail(0)
	if d(3) == 0 {
		disk.Fail(d(14))
	}
	if d(3) == 0 {
		disk.Stop(d(14))
	}
}

// P27.6: at each call of the disk at which the power can go, with each number of bytes that can stay.
func TestEachCrash(t *testing.T) {
	deeds := []deed{
		{"Register", func(e teller) (int, error) { return e.Register(mean) }},
		{"Points", func(e teller) (int, error) { return e.Points([]api.Point{point("a", 10, field("v", 4))}) }},
		{"Compact", func(e teller) (int, error) {
			if s, is := e.(*Store); is {
				return 0, s.Compact()
			}
			return 0, nil
		}},
		{"Expire", func(e teller) (int, error) { return e.Expire("cpu", 0) }},
		{"Drop", func(e teller) (int, error) { return 0, e.Drop(1) }},
	}
	crashes := 0
	for stop := 1; ; stop++ {
		d := disk(t, 100000)
		d.Stop(stop)
		sure, refusedAt := fresh(t), -1
		if s, err := Open(d, tables(), series, points); err == nil {
			for i, c := range deeds {
				if _, err := c.do(s); err != nil {
					refused(t, c.name, err, api.ErrIO)
					refusedAt = i
					break
				}
				_, err := c.do(sure)
				well(t, c.name, err)
			}
			if refusedAt < 0 {
				break
			}
		}
		more := sure.Fork()
		if refusedAt >= 0 {
			_, err := deeds[refusedAt].do(more)
			well(t, deeds[refusedAt].name, err)
		}
		for _, image := range d.Images() {
			for keep := range len(image.Now) - len(image.Durable) + 1 {
				crashes++
				other := d.Fork()
				well(t, keep, other.Crash([]api.Fate{{Name: image.Name, Keep: keep}}))
				got := open(t, other).Engine().Save()
				whole := image.Name == "log" && len(image.Durable)+keep == len(image.Now)
				want := sure
				if whole && len(image.Now) > len(image.Durable) {
					want = more
				}
				is(t, fmt.Sprint("stopped at ", stop, ", ", keep, " bytes of ", image.Name), got, want.Save())
			}
		}
	}
	if crashes < 300 {
		t.Errorf("%d crashes", crashes)
	}
}
