package acc

import (
	"strconv"
	"strings"

	"weir/api"
	"weir/heap"
	"weir/key"
)

// extreme is Min's and Max's: the numbers are ranks, so that the one that is asked for is at the top.
type extreme struct {
	ranked *heap.Heap
}

func (x *extreme) add(p place, n int64) error {
	return x.ranked.Put(api.Entry{Rank: n, Name: name(p.series, p.time)})
}

func (x *extreme) remove(p place) error {
	_, err := x.ranked.Take(name(p.series, p.time))
	return err
}

func (x *extreme) tell() api.Slot {
	top, _ := x.ranked.Top()
	return api.Slot{N: top.Rank}
}

func (x *extreme) size() int { return x.ranked.Len() }

// edge is First's and Last's: the times are ranks, and at one time the names stand as those of the series do.
type edge struct {
	timed   *heap.Heap
	numbers map[string]int64 // by the entries' names
}

func (e *edge) add(p place, n int64) error {
	entry := api.Entry{Rank: p.time, Name: name(ordered(p.series), p.time)}
	if err := e.timed.Put(entry); err != nil {
		return err
	}
	e.numbers[entry.Name] = n
	return nil
}

func (e *edge) remove(p place) error {
	entry, err := e.timed.Take(name(ordered(p.series), p.time))
	if err != nil {
		return err
	}
	delete(e.numbers, entry.Name)
	return nil
}

func (e *edge) tell() api.Slot {
	top, _ := e.timed.Top()
	return api.Slot{N: e.numbers[top.Name]}
}

func (e *edge) size() int { return e.timed.Len() }

// name is an entry's name: one for each series and time, and of one time by the series' bytes.
// The time stands ahead: a series may be any text, and go on as a time does.
func name(series string, t int64) string { return strconv.FormatInt(t, 10) + " " + series }

// How the texts that stand in the order of series begin, and the marks in them: no name and no tag's
// value has bytes so low, so that one that ends is smaller than one that goes on, and fewer tags than more.
const (
	isKey   = "a"
	isOther = "b"

	markField = "\x01"
	markTag   = "\x02"
	markValue = "\x03"
)

// ordered is a text for a series' name: of two names the one is smaller, if its text is, by its bytes.
func ordered(series string) string {
	s, err := key.Parse(series)
	if err != nil {
		return isOther + series
	}
	var b strings.Builder
	b.WriteString(isKey + s.Measure)
	for _, tag := range s.Tags {
		b.WriteString(markTag + tag.Key + markValue + tag.Value)
	}
	b.WriteString(markField + s.Field)
	return b.String()
}
