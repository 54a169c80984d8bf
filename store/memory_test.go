package store

import (
	"fmt"
	"slices"
	"testing"

	"weir/api"
	"weir/expect"
)

// kept is a store with tags, and all that it tells.
func kept(t *testing.T) (*Store, func(what string)) {
	t.Helper()
	s := filled(t, put(of("cpu", "v", "host", "a"), 1, 1), put(of("cpu", "v", "host", "a"), 2, 2), put(of("cpu", "w", "host", "a"), 1, 3), put(of("cpu", "v", "host", "b"), 1, 4))
	tell := func() string {
		l, _ := s.Scan("cpu", nil, 0, 9)
		return fmt.Sprint(s.Save(), s.Measures(), s.List("cpu"), l)
	}
	ahead := tell()
	return s, func(what string) {
		t.Helper()
		if tell() != ahead {
			t.Errorf("%s: the store has changed", what)
		}
	}
}

// scratch turns all tags of some series, and holds that each list has its own.
func scratch(t *testing.T, what string, lists ...[]api.Tag) {
	t.Helper()
	for i, l := range lists {
		for k := range l {
			if l[k].Value == "scratched" {
				t.Errorf("%s: two lists share memory", what)
			}
			l[k] = api.Tag{Key: "other", Value: "scratched"}
		}
		lists[i] = append(l, api.Tag{Key: "more", Value: "scratched"})
	}
}

func tagsOfDeltas(l []api.Delta) (all [][]api.Tag) {
	for _, d := range l {
		all = append(all, d.Series.Tags)
	}
	return all
}

func tagsOfWrites(l []api.Write) (all [][]api.Tag) {
	for _, w := range l {
		all = append(all, w.Series.Tags)
	}
	return all
}

// P3: what is answered is the caller's, and no two lists of it are one.
func TestAnswersAreTheCallers(t *testing.T) {
	s, same := kept(t)
	l, _ := s.Scan("cpu", nil, 0, 9)
	scratch(t, "Scan", tagsOfWrites(l)...)
	same("Scan")
	for _, x := range s.List("cpu") {
		scratch(t, "List", x.Tags)
	}
	s.Measures()[0] = "x"
	b := s.Save()
	for i := range b {
		b[i]++
	}
	same("List, Measures, Save")

	d, _ := s.Delete("cpu", nil, 0, 9)
	again := slices.Clone(d)
	for i := range again {
		again[i].Series.Tags = slices.Clone(again[i].Series.Tags)
	}
	scratch(t, "Delete", tagsOfDeltas(d)...)
	fails(t, "Undo", s.Undo(again), 0, expect.None)
	same("Delete and Undo")
	scratch(t, "Undo", tagsOfDeltas(again)...)
	same("what Undo was handed")
	d = s.Drop("cpu")
	var writes []api.Write
	for _, x := range d {
		writes = append(writes, api.Write{Series: x.Series, Sample: api.Sample{Time: x.Time, Value: x.Old}})
	}
	told, _ := s.Write(writes)
	scratch(t, "Drop", tagsOfDeltas(d)...)
	same("what Write was handed")
	scratch(t, "Write", tagsOfDeltas(told)...)
	same("what Write told")
}

// P3: what is handed in stays as it is, the room behind its end too.
func TestHandedInStays(t *testing.T) {
	s, _ := kept(t)
	x := of("cpu", "v", "host", "z")
	writes := []api.Write{put(x, 9, 1), put(x, 3, 1), put(x, 9, 2), put(cpu, 7, 7)}
	deltas := []api.Delta{became(x, 9, some(2), nil), became(x, 3, some(1), nil), became(cpu, 7, some(7), some(8)), became(cpu, 8, nil, nil)}
	cond := []api.Node{op(api.OpEq, 2), tag("host"), text("z"), op(api.OpTrue, 0)}
	told := fmt.Sprint(writes, deltas, cond)
	for _, err := range []error{
		func() error { _, err := s.Write(writes[:3]); return err }(),
		func() error { _, err := s.Scan("cpu", cond[:3], 0, 9); return err }(),
		s.Apply(deltas[:2]),
		s.Undo(deltas[:2]),
		func() error { _, err := s.Delete("cpu", cond[:3], 0, 9); return err }(),
	} {
		fails(t, "a call", err, 0, expect.None)
	}
	if fmt.Sprint(writes, deltas, cond) != told {
		t.Errorf("what was handed in became %v, %v, %v", writes, deltas, cond)
	}
	b := s.Save()
	roomy := append(slices.Clone(b), 1, 2, 3)
	other, err := Load(roomy[:len(b)], 9, 99)
	fails(t, "Load", err, 0, expect.None)
	is(t, "what Load was handed", roomy, append(slices.Clone(b), 1, 2, 3))
	clear(roomy)
	is(t, "the store behind Load", other.Save(), b)
}

// P4: what becomes of one of two stores changes nothing of the other one.
func TestFork(t *testing.T) {
	calls := []func(s *Store) error{
		func(s *Store) error {
			_, err := s.Write([]api.Write{put(of("cpu", "v", "host", "a"), 1, 9), put(of("mem", "v"), 1, 1)})
			return err
		},
		func(s *Store) error { _, err := s.Delete("cpu", nil, 1, 2); return err },
		func(s *Store) error { s.Drop("cpu"); return nil },
		func(s *Store) error { return s.Apply([]api.Delta{became(cpu, 5, nil, some(5))}) },
		func(s *Store) error { return s.Undo([]api.Delta{became(cpu, 5, some(5), nil)}) },
	}
	for i, call := range calls {
		s, same := kept(t)
		other := s.Fork()
		fails(t, i, call(other), 0, expect.None)
		same("a call of the fork")
		s, same = kept(t)
		other, ahead := s.Fork(), s.Save()
		fails(t, i, call(s), 0, expect.None)
		is(t, "a call of the first", other.Save(), ahead)
		is(t, "List", other.List("mem"), []api.Series(nil))
		if len(other.List("cpu")) != 3 {
			t.Errorf("%d: %v", i, other.List("cpu"))
		}
	}
	s := fresh(t, 1, 2).Fork()
	_, err := s.Write([]api.Write{put(cpu, 1, 1), put(load, 1, 1)})
	fails(t, "the fork's room", err, api.ErrSeries, expect.None)
	_, err = s.Write([]api.Write{put(cpu, 1, 1), put(cpu, 2, 1), put(cpu, 3, 1)})
	fails(t, "the fork's room", err, api.ErrPoints, expect.None)
	if d, err := s.Write([]api.Write{put(cpu, 1, 1), put(cpu, 2, 1)}); err != nil || len(d) != 2 {
		t.Errorf("%v, %v", d, err)
	}
	_, err = s.Fork().Write([]api.Write{put(cpu, 3, 1)})
	fails(t, "the fork's points", err, api.ErrPoints, expect.None)
}

// P1: of a nil store.
func TestNil(t *testing.T) {
	var s *Store
	_, err := s.Write(nil)
	fails(t, "Write", err, api.ErrNil, expect.None)
	_, err = s.Write([]api.Write{{}})
	fails(t, "Write", err, api.ErrNil, expect.None)
	fails(t, "Apply", s.Apply([]api.Delta{{}}), api.ErrNil, expect.None)
	fails(t, "Undo", s.Undo([]api.Delta{{}}), api.ErrNil, expect.None)
	_, err = s.Delete("cpu", noConds()[0], 2, 1)
	fails(t, "Delete", err, api.ErrNil, expect.None)
	_, err = s.Scan("cpu", noConds()[0], 2, 1)
	fails(t, "Scan", err, api.ErrNil, expect.None)
	v, there := s.Get(cpu, 1)
	series, points := s.Count()
	if s.Fork() != nil || len(s.Drop("cpu")) != 0 || v != (api.Value{}) || there || len(s.List("cpu")) != 0 || len(s.Measures()) != 0 || series != 0 || points != 0 || len(s.Save()) != 0 {
		t.Error("a nil store answers something")
	}
}
