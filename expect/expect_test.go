package expect

import (
	"errors"
	"testing"

	"weir/api"
)

func TestWrong(t *testing.T) {
	at := api.At{Pos: 7, Err: api.ErrForm}
	in := api.In{Index: 3, Err: at}
	for _, c := range []struct {
		err        error
		e          api.Errno
		pos, index int
		right      bool
	}{
		{nil, 0, None, None, true},
		{api.ErrForm, api.ErrForm, None, None, true},
		{at, api.ErrForm, 7, None, true},
		{in, api.ErrForm, 7, 3, true},
		{nil, api.ErrForm, None, None, false},
		{api.ErrForm, 0, None, None, false},
		{api.Errno(0), 0, None, None, false},
		{errors.New("x"), 0, None, None, false},
		{errors.New("x"), api.ErrForm, None, None, false},
		{api.ErrShort, api.ErrForm, None, None, false},
		{api.ErrForm, api.ErrForm, 0, None, false},
		{api.ErrForm, api.ErrForm, None, 0, false},
		{at, api.ErrForm, None, None, false},
		{at, api.ErrForm, 6, None, false},
		{in, api.ErrForm, 7, None, false},
		{in, api.ErrForm, 7, 2, false},
	} {
		if wrong := Wrong(c.err, c.e, c.pos, c.index); (wrong == "") != c.right {
			t.Errorf("%v: %q", c, wrong)
		}
	}
}
