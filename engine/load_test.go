package engine

import (
	"bytes"
	"fmt"
	"math"
	"slices"
	"testing"

	"weir/api"
	"weir/key"
	"weir/sample"
	"weir/wire"
)

// sampled is a sample of a series, by its key.
func sampled(name string, at int64, v any) api.Write {
	s, err := key.Parse(name)
	if err != nil {
		panic(name)
	}
	w := api.Write{Series: s, Sample: api.Sample{Time: at}}
	switch v := v.(type) {
	case int:
		w.Sample.Value.N = int64(v)
	case api.ValueKind:
		w.Sample.Value.Kind = v
	}
	return w
}

// base is an engine with all that can be saved, and its samples: cpu has expired to 20 since the first query was registered,
// and ahead of the third one; ten, the target of the first one, to 10 since the second was. (The third one's windows do not begin at 20.)
func base(t *testing.T) (image, []api.Write) {
	t.Helper()
	m := modelOf(tables(), 50, 100)
	e := fresh(t, 50, 100)
	both := func(texts ...string) {
		t.Helper()
		for _, text := range texts {
			register(t, e, text)
			_, err := m.register(text)
			well(t, text, err)
		}
	}
	lines := func(text string) {
		t.Helper()
		write(t, e, text)
		_, err := m.write(text)
		well(t, text, err)
	}
	gone := func(measure string, at int64) {
		t.Helper()
		expire(t, e, measure, at)
		_, err := m.expire(measure, at)
		well(t, measure, err)
	}
	both("SELECT sum(v) AS s, max(v) AS x INTO ten FROM cpu GROUP BY time(10ns), host")
	both("SELECT count(s) AS n INTO \"all\" FROM ten GROUP BY time(10ns)")
	lines("cpu v=1i -5\ncpu,host=a v=2i 5\ncpu v=3i 15\ncpu,host=b v=4i 25\ncpu,host=b v=5i 35\ncpu,host=b,zone=z w=6i 35")
	lines(`net\ io v=7i 4611686018427387904`)
	gone("cpu", 20)
	gone("ten", 10)
	both("SELECT count(v) AS n INTO late FROM cpu GROUP BY time(30ns)")
	m.steps = e.Steps()
	m.agrees(t, e)
	return m.image(), m.all()
}

// with are samples and others over them.
func with(l []api.Write, more ...api.Write) []byte { return storeOf(append(slices.Clone(l), more...)) }

// without are samples but one.
func without(l []api.Write, name string, at int64) []byte {
	rest := slices.DeleteFunc(slices.Clone(l), func(w api.Write) bool { return key.Print(w.Series) == name && w.Sample.Time == at })
	if len(rest) != len(l)-1 {
		panic(name)
	}
	return storeOf(rest)
}

// P26.7, P26.13: what may be is loaded, and comes back.
func TestLoad(t *testing.T) {
	i, all := base(t)
	frozen := sampled("ten x", 10, 3)
	for what, change := range map[string]func(*image){
		"as it is":                         func(i *image) {},
		"the greatest number there may be": func(i *image) { i.last = 1 << 40 },
		"the least":                        func(i *image) { i.last = 3 },
		"all as it stands":                 func(i *image) { i.plain = 1 },
		"a query as it stands":             func(i *image) { i.queries[1].plain = 1 },
		"other numbers":                    func(i *image) { i.last, i.queries[1].number, i.queries[2].number = 77, 8, 77 },
		"just the room":                    func(i *image) { i.series, i.points = 9, 17 },
		"all room":                         func(i *image) { i.series, i.points = api.MaxSeries, api.MaxPoints },
		"another frozen row":               func(i *image) { i.store = with(all, sampled("ten,host=c s", 10, api.Over)) },
		"a frozen row of another value":    func(i *image) { i.store = with(all, sampled("ten x", 10, api.Void)) },
		"a frozen row less":                func(i *image) { i.store = without(all, key.Print(frozen.Series), 10) },
		"a frozen row more":                func(i *image) { i.store = with(all, sampled("all n", -100, 3)) },
		"another horizon": func(i *image) {
			i.horizons = slices.Insert(i.horizons, 1, horizonImage{"net io", api.MaxTime})
		},
		"a horizon between windows of one that is late": func(i *image) {
			i.horizons = slices.Insert(i.horizons, 1, horizonImage{"late", 1})
			i.store = without(all, "late n", 0)
		},
		"no query, no sample": func(i *image) { i.queries, i.horizons, i.store = nil, nil, storeOf(nil) },
		"no table": func(i *image) {
			i.schema, i.queries, i.horizons, i.store = "", nil, nil, storeOf(nil)
		},
	} {
		other := i
		other.queries, other.horizons = slices.Clone(i.queries), slices.Clone(i.horizons)
		change(&other)
		e, err := Load(other.bytes())
		well(t, what, err)
		is(t, what, e.Save(), other.bytes())
		f, err := Load(e.Save())
		well(t, what, err)
		is(t, what, face(t, f), face(t, e))
	}
}

// P26.7: each thing that may not be is refused.
func TestLoadRefused(t *testing.T) {
	i, all := base(t)
	text := "SELECT max(v) AS x INTO %s FROM %s GROUP BY time(10ns)"
	add := func(i *image, l ...string) {
		for _, text := range l {
			i.last++
			i.queries = append(i.queries, queryImage{number: i.last, text: text})
		}
	}
	for what, change := range map[string]func(*image){
		"no schema":                   func(i *image) { i.schema = "x" },
		"a schema in another form":    func(i *image) { i.schema = i.schema[:len(i.schema)-1] },
		"too much room for series":    func(i *image) { i.series = api.MaxSeries + 1 },
		"too much room for samples":   func(i *image) { i.points = 1 << 40 },
		"no room for the series":      func(i *image) { i.series = 8 },
		"no room for the samples":     func(i *image) { i.points = 16 },
		"no truth":                    func(i *image) { i.plain = 2 },
		"no truth of a query":         func(i *image) { i.queries[1].plain = 2 },
		"no truth of a source":        func(i *image) { i.queries[1].expired = 255 },
		"a query number 0":            func(i *image) { i.queries[0].number = 0 },
		"a number twice":              func(i *image) { i.queries[1].number = 1 },
		"numbers that fall":           func(i *image) { i.queries[1].number, i.last = 5, 7 },
		"a number above the greatest": func(i *image) { i.last = 2 },
		"no query":                    func(i *image) { i.queries[0].text = "SELECT" },
		"a query in another form":     func(i *image) { i.queries[2].text += " " },
		"a query without a target":    func(i *image) { add(i, "SELECT max(v) AS x FROM cpu GROUP BY time(10ns)") },
		"a query of no source":        func(i *image) { add(i, fmt.Sprintf(text, "o", "nope")) },
		"a query of no column":        func(i *image) { add(i, fmt.Sprintf(text, "o", "ten")) },
		"a target twice":              func(i *image) { add(i, fmt.Sprintf(text, "late", "cpu")) },
		"a target that is a table":    func(i *image) { add(i, fmt.Sprintf(text, "cpu", "cpu")) },
		"a query ahead of its source": func(i *image) { i.queries[0].text, i.queries[1].text = i.queries[1].text, i.queries[0].text },
		"a horizon of nothing":        func(i *image) { i.horizons = append(i.horizons, horizonImage{"zzz", 5}) },
		"horizons that fall":          func(i *image) { slices.Reverse(i.horizons) },
		"a horizon twice":             func(i *image) { i.horizons = append(i.horizons, i.horizons[len(i.horizons)-1]) },
		"a horizon at the beginning":  func(i *image) { i.horizons = slices.Insert(i.horizons, 1, horizonImage{"late", -api.MaxTime}) },
		"a horizon behind the end": func(i *image) {
			i.horizons = slices.Insert(i.horizons, 1, horizonImage{"net io", api.MaxTime + 1})
			i.store = without(all, `net\ io v`, api.MaxTime)
		},
		"a source without a horizon": func(i *image) { i.horizons = i.horizons[:1] },
		"a source between windows":   func(i *image) { i.horizons[0].at = 21 },
		"a late one frozen":          func(i *image) { i.queries[2].expired = 1 },
		"one that is not frozen":     func(i *image) { i.queries[0].expired = 0 },
		"no store":                   func(i *image) { i.store = []byte{1} },
		"nothing as a store":         func(i *image) { i.store = nil },
		"more than a store":          func(i *image) { i.store = append(slices.Clone(i.store), 0) },

		"a sample of no measure":           func(i *image) { i.store = with(all, sampled("nope v", 50, 1)) },
		"a mark in a table":                func(i *image) { i.store = with(all, sampled("cpu w", 50, api.Over)) },
		"another mark in a table":          func(i *image) { i.store = with(all, sampled(`net\ io v`, 50, api.Void)) },
		"a tag that is none of a table":    func(i *image) { i.store = with(all, sampled("cpu,nope=a w", 50, 1)) },
		"a tag of another table":           func(i *image) { i.store = with(all, sampled(`net\ io,host=a v`, 50, 1)) },
		"a field that is none of a table":  func(i *image) { i.store = with(all, sampled("cpu x", 50, 1)) },
		"a sample ahead of a horizon":      func(i *image) { i.store = with(all, sampled("cpu w", 19, 1)) },
		"a sample ahead of all times":      func(i *image) { i.store = with(all, sampled(`net\ io v`, -api.MaxTime-1, 1)) },
		"a sample behind all times":        func(i *image) { i.store = with(all, sampled("cpu w", api.MaxTime+1, 1)) },
		"a sample at the last time":        func(i *image) { i.store = with(all, sampled("cpu w", math.MaxInt64, 1)) },
		"a sample more in a table":         func(i *image) { i.store = with(all, sampled("cpu v", 50, 1)) },
		"a sample less in a table":         func(i *image) { i.store = without(all, "cpu,host=b v", 25) },
		"another sample in a table":        func(i *image) { i.store = with(all, sampled("cpu,host=b v", 25, 3)) },
		"a tag that is no group":           func(i *image) { i.store = with(all, sampled("ten,zone=z x", 10, 1)) },
		"a field that is no item":          func(i *image) { i.store = with(all, sampled("ten v", 10, 1)) },
		"a row between windows":            func(i *image) { i.store = with(all, sampled("ten x", 11, 1)) },
		"a row ahead of the horizon":       func(i *image) { i.store = with(all, sampled("ten x", 0, 1)) },
		"a row ahead of all times":         func(i *image) { i.store = with(all, sampled("all n", math.MinInt64+8, 1)) },
		"a row at the last time":           func(i *image) { i.store = with(all, sampled("late n", math.MaxInt64, 1)) },
		"a row less":                       func(i *image) { i.store = without(all, "ten,host=b s", 20) },
		"a row more":                       func(i *image) { i.store = with(all, sampled("ten,host=c s", 20, 1)) },
		"another row":                      func(i *image) { i.store = with(all, sampled("ten,host=b s", 20, 3)) },
		"a mark in a row's place":          func(i *image) { i.store = with(all, sampled("ten,host=b x", 30, api.Over)) },
		"a row of a level above less":      func(i *image) { i.store = without(all, "all n", 10) },
		"a row of a level above more":      func(i *image) { i.store = with(all, sampled("all n", 40, 1)) },
		"a frozen row that is counted":     func(i *image) { i.store = with(all, sampled("ten,host=c s", 10, 1)) },
		"a late row less":                  func(i *image) { i.store = without(all, "late n", 0) },
		"a late row ahead of the horizon":  func(i *image) { i.store = with(all, sampled("late n", -30, 1)) },
		"a late row of another value":      func(i *image) { i.store = with(all, sampled("late n", 0, 2)) },
		"a horizon that hides no late row": func(i *image) { i.horizons = slices.Insert(i.horizons, 1, horizonImage{"late", 0 + 1}) },
	} {
		other := i
		other.queries, other.horizons = slices.Clone(i.queries), slices.Clone(i.horizons)
		change(&other)
		e, err := Load(other.bytes())
		fails(t, what, err, api.ErrForm, none, none)
		if e != nil {
			t.Errorf("%s: an engine beside an error", what)
		}
	}
}

// P26.7: as many queries, and as many levels, as may be.
func TestLoadMany(t *testing.T) {
	e := full(t)
	f, err := Load(e.Save())
	well(t, "Load", err)
	is(t, "Load", face(t, f), face(t, e))
	i := image{schema: "TABLE cpu FIELDS v\n", series: 1, points: 1, last: api.MaxOpen + 1, store: storeOf(nil)}
	for n := range api.MaxOpen + 1 {
		i.queries = append(i.queries, queryImage{number: uint64(n + 1), text: fmt.Sprintf("SELECT max(v) AS v INTO o%d FROM cpu GROUP BY time(1h)", n)})
	}
	_, err = Load(i.bytes())
	fails(t, "one more query", err, api.ErrForm, none, none)
	i.queries = i.queries[:api.MaxOpen]
	_, err = Load(i.bytes())
	well(t, "as many queries as may be", err)
	from := "cpu"
	for n := range api.MaxLevels + 1 {
		i.queries[n].text = fmt.Sprintf("SELECT max(v) AS v INTO l%d FROM %s GROUP BY time(1h)", n, from)
		from = fmt.Sprint("l", n)
	}
	_, err = Load(i.bytes())
	fails(t, "one more level", err, api.ErrForm, none, none)
	i.queries = slices.Delete(i.queries, api.MaxLevels, api.MaxLevels+1)
	_, err = Load(i.bytes())
	well(t, "as many levels as may be", err)
}

// P26.7: wire's faults come first, from the left, with their places.
func TestLoadFaults(t *testing.T) {
	i, _ := base(t)
	whole := i.bytes()
	for n := range whole {
		_, err := Load(whole[:n])
		fails(t, n, err, api.ErrShort, n, none)
	}
	_, err := Load(append(slices.Clone(whole), 0))
	fails(t, "more", err, api.ErrMore, len(whole), none)
	_, err = Load(nil)
	fails(t, "nothing", err, api.ErrShort, 0, none)

	// What is wrong in itself is told behind what is wrong with the bytes.
	i.schema, i.plain = "x", 7
	_, err = Load(append(i.bytes(), 0))
	fails(t, "more, and no schema", err, api.ErrMore, len(i.bytes()), none)
	for _, c := range []struct {
		name  string
		write func(w *wire.Writer)
		e     api.Errno
	}{
		{"a long schema", func(w *wire.Writer) { w.Uint(api.MaxFrame + 1) }, api.ErrLong},
		{"room for series", func(w *wire.Writer) { w.Text("x"); w.Uint(1<<40 + 1) }, api.ErrRange},
		{"room for points", func(w *wire.Writer) { w.Text("x"); w.Uint(1 << 40); w.Uint(1<<40 + 1) }, api.ErrRange},
		{"the greatest number", func(w *wire.Writer) { w.Text("x"); w.Uint(0); w.Uint(0); w.Byte(9); w.Uint(1<<40 + 1) }, api.ErrRange},
		{"how many queries", func(w *wire.Writer) { begunBytes(w); w.Uint(1<<40 + 1) }, api.ErrRange},
		{"a query's number", func(w *wire.Writer) { begunBytes(w); w.Uint(1 << 40); w.Uint(1<<40 + 1) }, api.ErrRange},
		{"a query's text", func(w *wire.Writer) {
			begunBytes(w)
			w.Uint(1)
			w.Uint(1 << 40)
			w.Byte(9)
			w.Byte(9)
			w.Uint(api.MaxFrame + 1)
		}, api.ErrLong},
		{"how many horizons", func(w *wire.Writer) { begunBytes(w); w.Uint(0); w.Uint(1<<40 + 1) }, api.ErrRange},
		{"a measure", func(w *wire.Writer) { begunBytes(w); w.Uint(0); w.Uint(1 << 40); w.Uint(api.MaxFrame + 1) }, api.ErrLong},
		{"a store", func(w *wire.Writer) { begunBytes(w); w.Uint(0); w.Uint(0); w.Uint(api.MaxFrame + 1) }, api.ErrLong},
	} {
		var w wire.Writer
		c.write(&w)
		b := w.Bytes()
		// The number that is too large is the last one that was written.
		_, err := Load(b)
		at := len(b) - 1
		for b[at-1] >= 128 {
			at--
			if at == 0 {
				break
			}
		}
		fails(t, c.name, err, c.e, at, none)
	}
}

// begunBytes are those of an engine up to how many queries there are.
func begunBytes(w *wire.Writer) {
	w.Text("x")
	w.Uint(1 << 40)
	w.Uint(1 << 40)
	w.Byte(9)
	w.Uint(1 << 40)
}

// P26.7, P26.13: whatever is done to the bytes, they are refused, or are those of the engine that is loaded.
func TestLoadAnyBytes(t *testing.T) {
	i, _ := base(t)
	whole, d := i.bytes(), draw()
	taken := 0
	for n := range 20000 {
		b := slices.Clone(whole)
		for range 1 + d(2) {
			at := d(len(b))
			switch d(4) {
			case 0:
				b[at] = byte(d(256))
			case 1:
				b[at] ^= 1 << d(8)
			case 2:
				b = slices.Delete(b, at, at+1)
			case 3:
				b = slices.Insert(b, at, sample.One(d, 0, 1, byte(d(256))))
			}
		}
		e, err := Load(b)
		if err != nil {
			if e != nil {
				t.Fatalf("%d: an engine beside an error", n)
			}
			continue
		}
		if !bytes.Equal(b, e.Save()) {
			t.Fatalf("%d: the bytes are others", n)
		}
		if !bytes.Equal(b, whole) {
			taken++
		}
	}
	if taken < 20 {
		t.Errorf("%d were taken", taken)
	}
}
