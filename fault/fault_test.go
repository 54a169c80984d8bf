package fault

import (
	"errors"
	"math"
	"testing"

	"weir/api"
)

// someNumbers are constants, numbers that are none, and int's ends; 0 is not among them.
func someNumbers() []api.Errno {
	return []api.Errno{
		api.ErrNil, api.ErrLong, api.ErrNumber, api.ErrSyntax, api.ErrStore,
		-1, 7, 19, 22, 275, 282, 999, -999, math.MaxInt, math.MinInt,
	}
}

// somePlaces are places and indexes of all sorts.
func somePlaces() []int {
	return []int{0, 1, -1, 7, 10, -10, 4000, math.MaxInt, math.MinInt}
}

// hold asks errors.As by itself, without fault.
func hold(t *testing.T, err error, e api.Errno, pos, index *int) {
	t.Helper()
	var n api.Errno
	if !errors.As(err, &n) || n != e {
		t.Errorf("%v: the number is %d, not %d", err, n, e)
	}
	var at api.At
	if found := errors.As(err, &at); found != (pos != nil) || found && at.Pos != *pos {
		t.Errorf("%v: the place: %v, %d", err, found, at.Pos)
	}
	var in api.In
	if found := errors.As(err, &in); found != (index != nil) || found && in.Index != *index {
		t.Errorf("%v: the index: %v, %d", err, found, in.Index)
	}
}

// P1.1
func TestNew(t *testing.T) {
	for _, e := range someNumbers() {
		hold(t, New(e), e, nil, nil)
	}
	if err := New(0); err != nil {
		t.Errorf("New(0): %v", err)
	}
}

// P1.1
func TestAt(t *testing.T) {
	for _, pos := range somePlaces() {
		for _, e := range someNumbers() {
			hold(t, At(pos, e), e, &pos, nil)
		}
		if err := At(pos, 0); err != nil {
			t.Errorf("At(%d, 0): %v", pos, err)
		}
	}
}

// P1.1
func TestIn(t *testing.T) {
	pos, other := 7, 12
	for _, index := range somePlaces() {
		for _, e := range someNumbers() {
			hold(t, In(index, New(e)), e, nil, &index)
			hold(t, In(index, At(pos, e)), e, &pos, &index)
			hold(t, In(index, In(other, At(pos, e))), e, &pos, &index)
			hold(t, In(index, api.In{Index: other, Err: e}), e, nil, &index)
		}
		if err := In(index, nil); err != nil {
			t.Errorf("In(%d, nil): %v", index, err)
		}
	}
}

type foreign struct{ text string }

func (f foreign) Error() string { return f.text }

// P1.1: what is wrapped is there still.
func TestInWraps(t *testing.T) {
	for _, err := range []error{New(api.ErrFull), At(3, api.ErrForm), In(1, New(api.ErrKey)), errors.New("x"), foreign{"y"}, &foreign{"z"}, api.Errno(0), (*foreign)(nil)} {
		in := In(5, err)
		if !errors.Is(in, err) {
			t.Errorf("In of %T does not wrap it", err)
		}
	}
	var f foreign
	if !errors.As(In(5, In(6, foreign{"y"})), &f) || f.text != "y" {
		t.Error("errors.As does not find in In what it finds in its error")
	}
}

type wrapper struct{ inner error }

func (w wrapper) Error() string { return "wrapper" }

func (w wrapper) Unwrap() error { return w.inner }

// masked is found as what it is not.
type masked struct{ as any }

func (m masked) Error() string { return "masked" }

func (m masked) As(target any) bool {
	switch p := target.(type) {
	case *api.Errno:
		e, ok := m.as.(api.Errno)
		*p = e
		return ok
	case *api.At:
		a, ok := m.as.(api.At)
		*p = a
		return ok
	case *api.In:
		i, ok := m.as.(api.In)
		*p = i
		return ok
	}
	return false
}

// liar lays something down, and says no, or panics.
type liar struct{ panics bool }

func (l liar) Error() string { return "liar" }

func (l liar) As(target any) bool {
	switch p := target.(type) {
	case *api.Errno:
		*p = api.ErrFull
	case *api.At:
		*p = api.At{Pos: 3}
	case *api.In:
		*p = api.In{Index: 4}
	}
	if l.panics {
		panic("liar")
	}
	return false
}

type heard struct {
	code      api.Errno
	pos       int
	hasPos    bool
	index     int
	hasIndex  bool
	inOneLine string
}

func hear(err error) heard {
	var h heard
	h.code = Code(err)
	h.pos, h.hasPos = Place(err)
	h.index, h.hasIndex = Index(err)
	h.inOneLine = Print(err)
	return h
}

// P1.2, P1.4: errors that nobody made by fault.
func TestForeign(t *testing.T) {
	joined := errors.Join(errors.New("x"), api.In{Index: 2, Err: foreign{"y"}}, api.At{Pos: 9, Err: api.ErrKey})
	for name, c := range map[string]struct {
		err  error
		want heard
	}{
		"nil":             {nil, heard{inOneLine: "ok"}},
		"bare":            {api.ErrForm, heard{code: api.ErrForm, inOneLine: "form"}},
		"at":              {api.At{Pos: 4, Err: api.ErrForm}, heard{code: api.ErrForm, pos: 4, hasPos: true, inOneLine: "at 4: form"}},
		"at at":           {api.At{Pos: 4, Err: api.At{Pos: 5, Err: api.ErrForm}}, heard{code: api.ErrForm, pos: 4, hasPos: true, inOneLine: "at 4: form"}},
		"at in":           {api.At{Pos: 4, Err: api.In{Index: 5, Err: api.ErrForm}}, heard{code: api.ErrForm, pos: 4, hasPos: true, index: 5, hasIndex: true, inOneLine: "number 5: at 4: form"}},
		"at nothing":      {api.At{Pos: -4}, heard{pos: -4, hasPos: true, inOneLine: "at -4: unknown"}},
		"in nothing":      {api.In{Index: 6}, heard{index: 6, hasIndex: true, inOneLine: "number 6: unknown"}},
		"zero":            {api.Errno(0), heard{inOneLine: "unknown"}},
		"in zero":         {In(6, api.Errno(0)), heard{index: 6, hasIndex: true, inOneLine: "number 6: unknown"}},
		"other":           {errors.New("full"), heard{inOneLine: "unknown"}},
		"in other":        {In(6, errors.New("full")), heard{index: 6, hasIndex: true, inOneLine: "number 6: unknown"}},
		"wrapped":         {wrapper{wrapper{At(8, api.ErrOld)}}, heard{code: api.ErrOld, pos: 8, hasPos: true, inOneLine: "at 8: old"}},
		"wrapped nothing": {wrapper{}, heard{inOneLine: "unknown"}},
		"joined":          {joined, heard{code: api.ErrKey, pos: 9, hasPos: true, index: 2, hasIndex: true, inOneLine: "number 2: at 9: key"}},
		"first of two":    {errors.Join(api.ErrFull, api.ErrKey), heard{code: api.ErrFull, inOneLine: "full"}},
		"zero is first":   {errors.Join(api.Errno(0), api.ErrKey), heard{inOneLine: "unknown"}},
		"masked number":   {masked{api.ErrOver}, heard{code: api.ErrOver, inOneLine: "over"}},
		"masked place":    {masked{api.At{Pos: 2, Err: api.ErrOver}}, heard{pos: 2, hasPos: true, inOneLine: "at 2: unknown"}},
		"masked index":    {masked{api.In{Index: 2, Err: api.ErrOver}}, heard{index: 2, hasIndex: true, inOneLine: "number 2: unknown"}},
		"no number":       {errors.New("errno 3"), heard{inOneLine: "unknown"}},
	} {
		if got := hear(c.err); got != c.want {
			t.Errorf("%s: %+v, not %+v", name, got, c.want)
		}
	}
}

// P1 of the whole: methods of foreign errors that panic, or lay down what they do not tell.
func TestHostile(t *testing.T) {
	for name, err := range map[string]error{
		"says no":     liar{},
		"panics":      liar{panics: true},
		"nil at":      (*api.At)(nil),
		"nil in":      (*api.In)(nil),
		"nil wrapper": (*wrapper)(nil),
		"wrapped":     wrapper{liar{panics: true}},
		"nil errno":   (*api.Errno)(nil),
	} {
		if got, want := hear(err), (heard{inOneLine: "unknown"}); got != want {
			t.Errorf("%s: %+v", name, got)
		}
		if got, want := hear(In(3, err)), (heard{index: 3, hasIndex: true, inOneLine: "number 3: unknown"}); got != want {
			t.Errorf("In of %s: %+v", name, got)
		}
	}
}

// The bound of the document: 2^16 parts nested in one another.
func TestDeep(t *testing.T) {
	err := New(api.ErrDeep)
	for range 1 << 16 {
		err = In(1, err)
	}
	if Print(err) != "number 1: deep" {
		t.Error("an error that is nested deep is not found")
	}
}

// P1.5
func TestWhatWentIn(t *testing.T) {
	for _, e := range someNumbers() {
		if got := hear(New(e)); got != (heard{code: e, inOneLine: Name(e)}) {
			t.Errorf("New(%d): %+v", e, got)
		}
		for _, n := range somePlaces() {
			if err := At(n, e); Code(err) != e {
				t.Errorf("Code of At(%d, %d)", n, e)
			} else if pos, ok := Place(err); pos != n || !ok {
				t.Errorf("Place of At(%d, %d)", n, e)
			} else if index, ok := Index(err); index != 0 || ok {
				t.Errorf("Index of At(%d, %d)", n, e)
			}
			for _, m := range somePlaces() {
				err := In(m, In(m/2, At(n, e)))
				pos, isAt := Place(err)
				index, isIn := Index(err)
				if Code(err) != e || pos != n || !isAt || index != m || !isIn {
					t.Errorf("In(%d, At(%d, %d)): %v", m, n, e, err)
				}
			}
		}
	}
}
