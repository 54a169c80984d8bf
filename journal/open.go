package journal

import (
	"bytes"
	"math"

	"weir/api"
	"weir/engine"
	"weir/fault"
	"weir/wire"
)

// Open opens one from a disk, and makes it where there is none.
func Open(d *Disk, l []api.Table, series, points int) (*Store, error) {
	if d == nil {
		return nil, fault.New(api.ErrNil)
	}
	for _, name := range []string{snapName, logName} {
		if err := tidy(d, name); err != nil {
			return nil, err
		}
	}
	s := &Store{disk: d}
	if err := s.openSnap(l, series, points); err != nil {
		return nil, err
	}
	if err := s.openLog(); err != nil {
		return nil, err
	}
	return s, nil
}

// openSnap lets the store have the engine that was written down, or a new one.
func (s *Store) openSnap(l []api.Table, series, points int) error {
	fresh, err := engine.New(l, series, points)
	if s.disk.has(snapName) {
		err = s.loadSnap(fresh)
	} else if err == nil {
		err = s.makeSnap(fresh)
	}
	if err != nil {
		return err
	}
	return s.disk.Sync(snapName)
}

func (s *Store) makeSnap(fresh *engine.Engine) error {
	b, err := sealedSnap(0, fresh)
	if err != nil {
		return err
	}
	s.engine = fresh
	return place(s.disk, snapName, b)
}

// loadSnap lets the store have the engine that is there, which must have been made as a fresh one is. (There is no
// fresh one of what no engine can be made with.)
func (s *Store) loadSnap(fresh *engine.Engine) error {
	b, err := s.disk.Read(snapName)
	if err != nil {
		return err
	}
	generation, saved, ok := openedSnap(b)
	if !ok {
		return fault.New(api.ErrCorrupt)
	}
	s.engine, err = engine.Load(saved)
	if err != nil {
		return fault.New(api.ErrCorrupt)
	}
	if fresh == nil || makingOf(fresh.Save()) != makingOf(saved) {
		return fault.New(api.ErrSchema)
	}
	s.generation = generation
	return nil
}

// making is what an engine was made with: its schema, as a text, and its room.
type making struct {
	schema         string
	series, points uint64
}

// makingOf reads it from the beginning of an engine's bytes.
func makingOf(saved []byte) making {
	r := wire.NewReader(saved)
	return making{schema: r.Text(api.MaxFrame), series: r.Uint(math.MaxUint64), points: r.Uint(math.MaxUint64)}
}

// openLog does what the log tells behind the snap, and lets it be durable, without what is lost.
func (s *Store) openLog() error {
	// A log that is not there has no head.
	b, _ := s.disk.Read(logName)
	head := sealedHead(s.generation)
	behind, follows := bytes.CutPrefix(b, head)
	if !follows {
		// What is there was written ahead of the snap, which has all that it tells.
		return place(s.disk, logName, head)
	}
	kept := s.replay(behind)
	s.lost = len(behind) - kept
	if s.lost == 0 {
		return s.disk.Sync(logName)
	}
	return place(s.disk, logName, b[:len(head)+kept])
}

// replay does a log's records, and tells how many bytes they have.
func (s *Store) replay(b []byte) int {
	first := s.engine.Fork()
	kept := 0
	for end, o := range records(b, s.generation) {
		if _, err := o.do(s.engine); err != nil {
			// A call that an engine refuses leaves it without steps: it must not have been made at all.
			s.engine, s.records = first, 0
			return s.replay(b[:kept])
		}
		s.records++
		kept = end
	}
	return kept
}
