package fault

import (
	"go/ast"
	"go/constant"
	"go/importer"
	"go/parser"
	"go/token"
	"go/types"
	"math"
	"strconv"
	"strings"
	"testing"

	"weir/api"
)

// constants are those of package api that are numbers of errors, as its text has them.
func constants(t *testing.T) map[string]api.Errno {
	t.Helper()
	set := token.NewFileSet()
	file, err := parser.ParseFile(set, "../api/api.go", nil, 0)
	if err != nil {
		t.Fatal(err)
	}
	pack, err := (&types.Config{Importer: importer.ForCompiler(set, "source", nil)}).Check("weir/api", set, []*ast.File{file}, nil)
	if err != nil {
		t.Fatal(err)
	}
	all := map[string]api.Errno{}
	for _, name := range pack.Scope().Names() {
		c, ok := pack.Scope().Lookup(name).(*types.Const)
		if !ok || c.Type().String() != "weir/api.Errno" {
			continue
		}
		n, _ := constant.Int64Val(c.Val())
		all[name] = api.Errno(n)
	}
	if len(all) < 57 || all["ErrNil"] != api.ErrNil || all["ErrStore"] != api.ErrStore {
		t.Fatalf("only %d constants", len(all))
	}
	return all
}

// P1.3
func TestNamesOfConstants(t *testing.T) {
	for name, e := range constants(t) {
		want := strings.ToLower(strings.TrimPrefix(name, "Err"))
		if got := Name(e); got != want {
			t.Errorf("Name(%s): %s", name, got)
		}
		if got, err := Find(want); got != e || err != nil {
			t.Errorf("Find(%s): %d, %v", want, got, err)
		}
	}
	if Name(0) != "ok" {
		t.Errorf("Name(0): %s", Name(0))
	}
	if e, err := Find("ok"); e != 0 || err != nil {
		t.Errorf("Find(ok): %d, %v", e, err)
	}
}

// P1.3, P1.7
func TestNamesOfAll(t *testing.T) {
	known := map[api.Errno]bool{0: true}
	for _, e := range constants(t) {
		known[e] = true
	}
	numbers := []api.Errno{math.MinInt, math.MinInt + 1, math.MaxInt - 1, math.MaxInt}
	for e := api.Errno(-400); e <= 400; e++ {
		numbers = append(numbers, e)
	}
	seen := map[string]bool{}
	for _, e := range numbers {
		name := Name(e)
		if !known[e] && name != "errno "+strconv.Itoa(int(e)) {
			t.Errorf("Name(%d): %s", e, name)
		}
		if seen[name] {
			t.Errorf("the name %s twice", name)
		}
		seen[name] = true
		if got, err := Find(name); got != e || err != nil {
			t.Errorf("Find(Name(%d)): %d, %v", e, got, err)
		}
	}
}

// P1.3: what is no name.
func TestFindNone(t *testing.T) {
	for _, s := range []string{
		"", " ", "OK", "ok ", " ok", "Full", "FULL", "ErrFull", "errfull", "full ", " full", "full\n", "full\x00",
		"unknown", "7", "999", "-1", "errno", "errno ", "errno  7", "errno7", " errno 7", "Errno 7",
		"errno 0", "errno 1", "errno 2", "errno 281", "errno 07", "errno 00", "errno +7", "errno -0", "errno -07", "errno --7",
		"errno 7 ", "errno 7\n", "errno 0x7", "errno 1_000", "errno 7.0", "errno ٧",
		"errno 9223372036854775808", "errno -9223372036854775809", "errno 18446744073709551623",
		"errno errno 7", "at 7: full", "number 7: full", "full full", "nilrange",
	} {
		e, err := Find(s)
		if e != 0 {
			t.Errorf("Find(%q): %d", s, e)
		}
		hold(t, err, api.ErrNone, nil, nil)
	}
}
