package fault

import (
	"regexp"
	"strconv"
	"strings"
	"testing"

	"weir/api"
)

// P1.4, the chapter's examples among them.
func TestPrint(t *testing.T) {
	for want, err := range map[string]error{
		"ok":                         nil,
		"full":                       New(api.ErrFull),
		"readonly":                   New(api.ErrReadOnly),
		"errno 999":                  New(999),
		"errno -3":                   New(-3),
		"at 7: syntax":               At(7, api.ErrSyntax),
		"at 0: syntax":               At(0, api.ErrSyntax),
		"at -7: errno 8":             At(-7, 8),
		"number 3: full":             In(3, New(api.ErrFull)),
		"number 0: number":           In(0, New(api.ErrNumber)),
		"number 3: at 7: syntax":     In(3, At(7, api.ErrSyntax)),
		"number -3: at 0: errno 999": In(-3, At(0, 999)),
		"number 3: at 7: key":        In(3, In(4, At(7, api.ErrKey))),
	} {
		if got := Print(err); got != want {
			t.Errorf("%q, not %q", got, want)
		}
	}
	if got := Print(In(-1<<63, At(1<<63-1, api.ErrIO))); got != "number -9223372036854775808: at 9223372036854775807: io" {
		t.Error(got)
	}
}

// alike tells whether two errors say the same.
func alike(a, b error) bool { return (a == nil) == (b == nil) && hear(a) == hear(b) }

// P1.4, P1.6: Parse of Print.
func TestParseOfPrint(t *testing.T) {
	all := []error{nil}
	for _, e := range someNumbers() {
		all = append(all, New(e))
		for _, n := range somePlaces() {
			all = append(all, At(n, e), In(n, New(e)), In(n, In(3, New(e))))
			for _, m := range somePlaces() {
				all = append(all, In(m, At(n, e)), In(4, In(m, At(n, e))))
			}
		}
	}
	for _, err := range all {
		told, bad := Parse(Print(err))
		if bad != nil || !alike(told, err) {
			t.Errorf("Parse(%q): %v, %v", Print(err), told, bad)
		}
	}
}

func TestParse(t *testing.T) {
	told, bad := Parse("ok")
	if told != nil || bad != nil {
		t.Errorf("ok: %v, %v", told, bad)
	}
	three, seven := 3, -7
	for s, c := range map[string]struct {
		e          api.Errno
		pos, index *int
	}{
		"full":                     {api.ErrFull, nil, nil},
		"number":                   {api.ErrNumber, nil, nil},
		"at -7: number":            {api.ErrNumber, &seven, nil},
		"number 3: number":         {api.ErrNumber, nil, &three},
		"number 3: at -7: number":  {api.ErrNumber, &seven, &three},
		"number -7: at 3: errno 7": {7, &three, &seven},
		"errno -1":                 {-1, nil, nil},
	} {
		told, bad := Parse(s)
		if bad != nil {
			t.Errorf("%q: %v", s, bad)
		}
		hold(t, told, c.e, c.pos, c.index)
	}
}

// P1.4: what is no line.
func TestParseForm(t *testing.T) {
	for _, s := range []string{
		"", " ", "OK", " ok", "ok ", "ok\n", "full ", " full", "full\n", "Full", "ErrFull",
		"unknown", "at 1: unknown", "number 1: unknown", "number 1: at 1: unknown",
		"at 1: ok", "number 1: ok", "number 1: at 1: ok",
		"at 07: full", "at +7: full", "at -0: full", "at 00: full", "at -07: full", "at 7_0: full", "at 0x7: full", "at : full", "at x: full",
		"number 07: full", "number +7: full", "number -0: full", "number : full", "number x: full",
		"at", "at ", "at 7", "at 7:", "at 7: ", "at 7:full", "at 7 : full", "at  7: full", "at7: full", "At 7: full", "at 7; full", "at 7:  full",
		"number 1", "number 1:", "number 1: ", "number 1:full", "number  1: full", "number1: full", "Number 1: full",
		"at 7: at 8: full", "number 1: number 2: full", "at 7: number 1: full", "number 1: at 7: at 8: full", "number 1: at 7",
		"errno", "errno 0", "errno 2", "errno 07", "errno +7", "errno -0", "at 1: errno 2", "number 1: errno 0",
		"errno 9223372036854775808", "errno -9223372036854775809",
		"at 9223372036854775808: full", "at -9223372036854775809: full", "at 18446744073709551617: full",
		"number 9223372036854775808: full", "number -9223372036854775809: full", "number 18446744073709551617: full",
		"full: full", ": full", "at 7: full: ", strings.Repeat("number 1: ", 10000) + "full", "at " + strings.Repeat("9", 100000) + ": full",
	} {
		told, bad := Parse(s)
		if told != nil {
			t.Errorf("Parse(%q): %v", s, told)
		}
		hold(t, bad, api.ErrForm, nil, nil)
	}
}

// lines is what a line looks like; whether a number has a name of its own it cannot tell.
var lines = regexp.MustCompile(`^(number (0|-?[1-9][0-9]*): )?(at (0|-?[1-9][0-9]*): )?(full|number|errno (-?[1-9][0-9]*))$`)

// P1.4, P1.6: all texts of up to five pieces.
func TestParsePieces(t *testing.T) {
	named := map[string]bool{}
	for _, e := range constants(t) {
		named[strconv.Itoa(int(e))] = true
	}
	pieces := []string{"number ", "at ", "errno ", ": ", "number", "full", "ok", "unknown", "7", "0", "-", "2"}
	var try func(s string, left int)
	try = func(s string, left int) {
		told, bad := Parse(s)
		parts := lines.FindStringSubmatch(s)
		if want := s == "ok" || parts != nil && !named[parts[6]]; (bad == nil) != want {
			t.Errorf("Parse(%q): %v, %v", s, told, bad)
		}
		if bad == nil && Print(told) != s {
			t.Errorf("Print of Parse(%q): %q", s, Print(told))
		}
		if left == 0 {
			return
		}
		for _, p := range pieces {
			try(s+p, left-1)
		}
	}
	try("", 5)
}
