package journal

import (
	"bytes"
	"fmt"
	"slices"
	"testing"

	"weir/api"
	"weir/engine"
	"weir/wire"
)

// base is an engine that was told something, of the generation 7.
func base(t *testing.T) *engine.Engine {
	t.Helper()
	e := fresh(t)
	_, err := e.Register(mean)
	well(t, "Register", err)
	_, err = e.Points([]api.Point{point("a", 10, field("v", 4))})
	well(t, "Points", err)
	return e
}

// P27.3: a snap that is none.
func TestCorrupt(t *testing.T) {
	e := base(t)
	snap := snapOf(t, 7, e)
	files := map[string][]byte{
		"no bytes":                nil,
		"a frame and a byte":      append(slices.Clone(snap), 0),
		"two frames":              append(slices.Clone(snap), snap...),
		"less than a frame":       snap[:len(snap)-1],
		"another kind":            seal(t, 2, 7, e.Save()),
		"a head":                  seal(t, 1, 7, nil),
		"a generation too far":    snapOf(t, 1<<31, e),
		"one that goes round":     snapOf(t, 1<<32+7, e),
		"the greatest number":     snapOf(t, 1<<64-1, e),
		"no engine":               seal(t, 3, 7, nil),
		"an engine and a byte":    seal(t, 3, 7, append(e.Save(), 0)),
		"an engine without a bit": seal(t, 3, 7, e.Save()[:len(e.Save())-1]),
	}
	for i := range snap {
		turned := slices.Clone(snap)
		turned[i] ^= 1 << (i % 8)
		files[fmt.Sprint("turned at ", i)] = turned
	}
	for what, b := range files {
		for _, l := range [][]api.Table{tables(), nil} {
			// What is left of a file that was to be is taken away ahead of all.
			d := loaded(t, 100000, durable("snap", b), durable("snap.new", nil), durable("log", logOf(t, 7)))
			s, err := Open(d, l, series, points)
			refused(t, what, err, api.ErrCorrupt)
			is(t, what, s == nil, true)
			is(t, what, d.Images(), []api.Image{durable("log", logOf(t, 7)), durable("snap", b)})
		}
	}
}

// P27.3: a snap of another schema, or of another room.
func TestOtherSchema(t *testing.T) {
	first := loaded(t, 100000, durable("snap", snapOf(t, 7, base(t))), durable("log", logOf(t, 7)))
	type made struct {
		tables         []api.Table
		series, points int
	}
	table := func(measure string, tags, fields []string) []api.Table {
		return []api.Table{{Measure: measure, Tags: tags, Fields: fields}}
	}
	tags, fields := []string{"host", "zone"}, []string{"v", "w"}
	for what, m := range map[string]made{
		"no table":              {nil, series, points},
		"another measure":       {table("mem", tags, fields), series, points},
		"another tag":           {table("cpu", []string{"host", "rack"}, fields), series, points},
		"a tag less":            {table("cpu", tags[:1], fields), series, points},
		"a field more":          {table("cpu", tags, []string{"v", "w", "x"}), series, points},
		"tags as fields":        {table("cpu", fields, tags), series, points},
		"a table more":          {append(tables(), table("mem", nil, fields)...), series, points},
		"its target as a table": {append(tables(), table("hourly", tags[:1], []string{"m"})...), series, points},
		"no schema":             {table("", nil, nil), series, points},
		"other room for series": {tables(), series + 1, points},
		"other room for points": {tables(), series, points - 1},
		"rooms turned about":    {tables(), points, series},
		"no room there can be":  {tables(), -1, api.MaxPoints + 1},
	} {
		d := first.Fork()
		s, err := Open(d, m.tables, m.series, m.points)
		refused(t, what, err, api.ErrSchema)
		is(t, what, s == nil, true)
		is(t, what, d.Images(), first.Images())
	}
	s := open(t, first)
	is(t, "Queries", s.Engine().Queries(), []int{1})
	// A list that is empty may be nil.
	bare := table("cpu", nil, fields)
	d := disk(t, 100000)
	_, err := Open(d, bare, 3, 4)
	well(t, "Open", err)
	bare[0].Tags = []string{}
	_, err = Open(d, bare, 3, 4)
	well(t, "Open", err)
}

// P27.3: what no engine can be made of is told behind what is left of files, and leaves the disk else as it was.
func TestOpenNothing(t *testing.T) {
	d := loaded(t, 100000, durable("log.new", nil), durable("other", []byte("x")))
	s, err := Open(d, append(tables(), tables()...), series, points)
	fails(t, "a table twice", err, api.ErrTwice, none, 1)
	is(t, "a table twice", s == nil, true)
	is(t, "Images", d.Images(), []api.Image{durable("other", []byte("x"))})
	_, err = Open(d, tables(), series, -1)
	refused(t, "no room", err, api.ErrRange)
	is(t, "Images", d.Images(), []api.Image{durable("other", []byte("x"))})
	_, err = Open(loaded(t, 50), tables(), series, points)
	refused(t, "a small disk", err, api.ErrFull)
	var many []api.Image
	for i := range api.MaxFiles {
		many = append(many, durable(fmt.Sprint("other", i), nil))
	}
	_, err = Open(loaded(t, 50, many...), tables(), series, points)
	refused(t, "a disk with many files", err, api.ErrFull)
}

// P27.3: what is a log's record, and what is lost.
func TestRecords(t *testing.T) {
	e := base(t)
	snap, head := snapOf(t, 7, e), logOf(t, 7)
	first, second := seal(t, 2, 7<<32, one(1, 20)), seal(t, 2, 7<<32+1, one(2, 30))
	good := slices.Concat(head, first)
	behind := func(frame []byte) []byte { return slices.Concat(good, frame) }
	next := func(op []byte) []byte { return behind(seal(t, 2, 7<<32+1, op)) }
	type log struct {
		b             []byte
		records, lost int
	}
	logs := map[string]log{
		"a head alone":                         {head, 0, 0},
		"a record":                             {good, 1, 0},
		"two":                                  {behind(second), 2, 0},
		"no bytes":                             {nil, 0, 0},
		"a head of another generation":         {logOf(t, 6, one(1, 20)), 0, 0},
		"a head with bytes":                    {append(seal(t, 1, 7, []byte{0}), first...), 0, 0},
		"a head of another kind":               {append(seal(t, 2, 7, nil), first...), 0, 0},
		"less than a head":                     {head[:len(head)-1], 0, 0},
		"no head":                              {first, 0, 0},
		"bytes behind a head":                  {append(slices.Clone(head), 1, 2, 3), 0, 3},
		"a record twice":                       {behind(first), 1, len(first)},
		"a number too far":                     {behind(seal(t, 2, 7<<32+2, one(2, 30))), 1, len(second)},
		"a number of another generation":       {behind(seal(t, 2, 6<<32+1, one(2, 30))), 1, len(second)},
		"another kind":                         {behind(seal(t, 1, 7<<32+1, one(2, 30))), 1, len(second)},
		"less than a record, and one behind":   {behind(append(second[:len(second)-1:len(second)-1], second...)), 1, 2*len(second) - 1},
		"a head behind":                        {behind(head), 1, len(head)},
		"no op":                                {next(nil), 1, 21},
		"an op of no kind":                     {next([]byte{6, 0}), 1, 23},
		"an op of the kind 0":                  {next([]byte{0}), 1, 22},
		"an op and a byte":                     {next(append(one(2, 30), 0)), 1, len(second) + 1},
		"less than an op":                      {next(one(2, 30)[:5]), 1, 21 + 5},
		"a number in too many bytes":           {next([]byte{2, 0x82, 0}), 1, 24},
		"very many points":                     {next(bytesOf(func(w *wire.Writer) { w.Byte(3); w.Uint(1 << 63) })), 1, 21 + 11},
		"many points that are not there":       {next(bytesOf(func(w *wire.Writer) { w.Byte(3); w.Uint(1 << 26) })), 1, 21 + 5},
		"a query that is refused":              {next(opOf(1, mean)), 1, 22 + 1 + len(mean)},
		"a point that is refused, and another": {slices.Concat(next(one(2, -1<<62-1)), second), 1, len(next(one(2, -1<<62-1))) - len(good) + len(second)},
		"no points":                            {next([]byte{3, 0}), 2, 0},
		"a query is dropped":                   {next([]byte{2, 2}), 2, 0},
		"one that is not there":                {next([]byte{2, 3}), 1, 23},
		"Delete":                               {next(with(opOf(4, "cpu", ""), 0, 9)), 2, 0},
		"Delete of a target":                   {next(with(opOf(4, "hourly", ""), 0, 9)), 1, len(next(with(opOf(4, "hourly", ""), 0, 9))) - len(good)},
		"Expire":                               {next(with(opOf(5, "hourly"), 1)), 2, 0},
		"Expire between windows":               {next(with(opOf(5, "cpu"), 1)), 1, len(next(with(opOf(5, "cpu"), 1))) - len(good)},
	}
	for i := range second {
		turned := behind(second)
		turned[len(good)+i] ^= 0x10
		logs[fmt.Sprint("turned at ", i)] = log{turned, 1, len(second)}
		logs[fmt.Sprint("cut at ", i)] = log{behind(second[:i]), 1, i}
	}
	for what, l := range logs {
		d := loaded(t, 100000, durable("snap", snap), durable("log", l.b))
		s := open(t, d)
		is(t, what, fmt.Sprint(s.Generation(), s.Records(), s.Lost(), s.ReadOnly()), fmt.Sprint(7, l.records, l.lost, false))
		tidied(t, d)
		// A log that does not begin as it must tells nothing, and none of it is lost.
		want := head
		if bytes.HasPrefix(l.b, head) {
			want = l.b[:len(l.b)-l.lost]
		}
		b, err := d.Read("log")
		well(t, what, err)
		is(t, what, b, want)
		again := open(t, d)
		is(t, what, fmt.Sprint(again.Records(), again.Lost()), fmt.Sprint(l.records, 0))
		is(t, what, again.Engine().Save(), s.Engine().Save())
		// Records go on behind those that are there.
		_, err = s.Points([]api.Point{point("", 99, field("v", 9))})
		well(t, what, err)
		b, err = d.Read("log")
		well(t, what, err)
		is(t, what, b, append(slices.Clone(want), seal(t, 2, 7<<32+uint64(l.records), one(9, 99))...))
	}
}

// P27.3: the engine has done the records, and not what is lost, the steps of the last one too.
func TestReplayed(t *testing.T) {
	e := base(t)
	first := loaded(t, 100000, durable("snap", snapOf(t, 7, e)), durable("log", logOf(t, 7, one(1, 20), opOf(1, "SELECT"), one(2, 30))))
	s := open(t, first)
	_, err := e.Points([]api.Point{point("", 20, field("v", 1))})
	well(t, "Points", err)
	is(t, "Save", s.Engine().Save(), e.Save())
	is(t, "Steps", s.Engine().Steps(), e.Steps())
	if e.Steps() == 0 {
		t.Error("no steps")
	}
}

// P27.3: a log that cannot be made anew, for there is no room.
func TestLostWithoutRoom(t *testing.T) {
	snap, log := snapOf(t, 7, fresh(t)), append(logOf(t, 7, one(1, 20)), 1, 2)
	d := loaded(t, len(snap)+len(log)+30, durable("snap", snap), durable("log", log))
	s, err := Open(d, tables(), series, points)
	refused(t, "Open", err, api.ErrFull)
	is(t, "Open", s == nil, true)
	is(t, "Images", d.Images(), []api.Image{durable("log", log), {Name: "log.new"}, durable("snap", snap)})
}

// P1: whatever stands on a disk, Open ends, and either tells an error or a store.
func TestOpenAnything(t *testing.T) {
	r := draw()
	e := base(t)
	snap, log := snapOf(t, 7, e), logOf(t, 7, one(1, 20), opOf(1, "SELECT max(v) INTO x FROM cpu GROUP BY time(1s)"), with(opOf(4, "cpu", ""), 0, 15), []byte{2, 2})
	opened := 0
	for range 3000 {
		turn := func(b []byte) []byte {
			b = slices.Clone(b)
			for range r(3) {
				b[r(len(b))] = byte(r(256))
			}
			return append(b[:len(b)-r(2)*r(len(b))], make([]byte, r(2)*r(30))...)
		}
		images := []api.Image{durable("log", turn(log)), durable("snap", snap)}
		if r(4) == 0 {
			images[1] = durable("snap", turn(snap))
		}
		d := loaded(t, 100000, images...)
		s, err := Open(d, tables(), series, points)
		if err != nil {
			refused(t, "Open", err, api.ErrCorrupt)
			continue
		}
		opened++
		tidied(t, d)
		b, err := d.Read("log")
		well(t, "Read", err)
		if !bytes.HasPrefix(log, b) {
			t.Fatal("a record that was never written")
		}
		is(t, "Records", s.Records() <= 4, true)
	}
	if opened < 1000 {
		t.Errorf("%d were opened", opened)
	}
}

// P27.3: two stores of one disk, and files that somebody else writes: no call panics.
func TestSomebodyElse(t *testing.T) {
	r := draw()
	for range 300 {
		d := disk(t, 3000)
		stores := []*Store{open(t, d), open(t, d)}
		for range 20 {
			s := stores[r(2)]
			switch r(8) {
			case 0:
				d.Remove([]string{"snap", "log", "snap.new", "log.new"}[r(4)])
			case 1:
				d.Create([]string{"snap", "log", "snap.new", "log.new"}[r(4)])
			case 2:
				d.Append([]string{"snap", "log"}[r(2)], make([]byte, r(50)))
			case 3:
				d.Rename([]string{"snap", "log"}[r(2)], []string{"snap", "log"}[r(2)])
			case 4:
				s.Compact()
			case 5:
				if again, err := Open(d, tables(), series, points); err == nil {
					stores[r(2)] = again
				}
			default:
				someDeed(r).do(s)
			}
		}
	}
}
