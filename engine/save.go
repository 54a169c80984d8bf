package engine

import (
	"maps"
	"slices"

	"weir/check"
	"weir/wire"
)

// Save is all of it, as bytes.
func (e *Engine) Save() []byte {
	if e == nil {
		return nil
	}
	var w wire.Writer
	// The schema is right since there is an engine of it.
	text, _ := check.Print(e.schema)
	w.Text(text)
	w.Uint(uint64(e.room.series))
	w.Uint(uint64(e.room.points))
	w.Byte(truth(e.plain))
	w.Uint(uint64(e.last))
	w.Uint(uint64(len(e.queries.list)))
	for _, q := range e.queries.list {
		w.Uint(uint64(q.number))
		w.Byte(truth(q.plain))
		w.Byte(truth(q.expired))
		w.Text(q.text)
	}
	w.Uint(uint64(len(e.horizons)))
	for _, measure := range slices.Sorted(maps.Keys(e.horizons)) {
		w.Text(measure)
		w.Int(e.horizons[measure])
	}
	w.Raw(e.store.Save())
	return w.Bytes()
}

func truth(so bool) byte {
	if so {
		return 1
	}
	return 0
}
