package funcs

import (
	"testing"

	"weir/api"
)

func TestNames(t *testing.T) {
	want := map[api.Func]string{
		api.Count: "count", api.TotalOf: "sum", api.Mean: "mean", api.Min: "min",
		api.Max: "max", api.First: "first", api.Last: "last", api.Spread: "spread",
	}
	for f := range 256 {
		name := want[api.Func(f)]
		if got := Name(api.Func(f)); got != name {
			t.Errorf("%d is called %q, not %q", f, got, name)
		}
		if got := Find(name); name != "" && got != api.Func(f) {
			t.Errorf("%q is %d, not %d", name, got, f)
		}
	}
	for _, name := range []string{"", "total", "totalof", "avg", "Count", "COUNT", " count", "counts", "coun"} {
		if f := Find(name); f != 0 {
			t.Errorf("%q is %d", name, f)
		}
	}
}
