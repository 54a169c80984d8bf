package journal

import (
	"iter"

	"weir/engine"
	"weir/wire"
)

// The files of a store. One that is written anew has another name till it is whole.
const (
	snapName = "snap"
	logName  = "log"
	unproven = ".new"
)

// The kinds of frames.
const (
	headKind = 1 + iota
	recordKind
	snapKind
)

// mostGeneration is the last generation there is.
const mostGeneration = 1<<31 - 1

// place lets a file be there as a whole, with these bytes, durable.
func place(d *Disk, name string, b []byte) error {
	fresh := name + unproven
	if err := d.Create(fresh); err != nil {
		return err
	}
	if err := d.Append(fresh, b); err != nil {
		return err
	}
	if err := d.Sync(fresh); err != nil {
		return err
	}
	return d.Rename(fresh, name)
}

// tidy takes away what place has left of a file that it gave up.
func tidy(d *Disk, name string) error {
	if !d.has(name + unproven) {
		return nil
	}
	return d.Remove(name + unproven)
}

// sealedHead is that of a log.
func sealedHead(generation int) []byte {
	// A frame has room for no bytes.
	b, _ := wire.Seal(headKind, uint64(generation), nil)
	return b
}

// sealedSnap is the file that an engine is.
func sealedSnap(generation int, e *engine.Engine) ([]byte, error) {
	return wire.Seal(snapKind, uint64(generation), e.Save())
}

// openedSnap are the bytes of the engine that a file is, if it is one.
func openedSnap(b []byte) (generation int, saved []byte, ok bool) {
	kind, number, saved, size, err := wire.Open(b)
	if err != nil || kind != snapKind || number > mostGeneration || size != len(b) {
		return 0, nil, false
	}
	return int(number), saved, true
}

// recordNumber is the number of a record's frame.
func recordNumber(generation, record int) uint64 { return uint64(generation)<<32 + uint64(record) }

// records are the ops with which b, that stands behind a log's head, begins; with each the place behind it.
func records(b []byte, generation int) iter.Seq2[int, op] {
	return func(yield func(int, op) bool) {
		at := 0
		for record := 0; ; record++ {
			kind, number, body, size, err := wire.Open(b[at:])
			if err != nil || kind != recordKind || number != recordNumber(generation, record) {
				return
			}
			o, right := readOp(body)
			at += size
			if !right || !yield(at, o) {
				return
			}
		}
	}
}
