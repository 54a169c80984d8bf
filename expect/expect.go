// Package expect holds errors against what the document promises of them. The tests of all packages ask it; the program does not.
package expect

import (
	"errors"
	"strconv"

	"weir/api"
)

// None stands for the place, or the index, of an error that tells none.
const None = -1

// Wrong tells what is wrong with an error that must have a number, a place
// and an index, or nothing if it has just these. The number 0 is no error.
func Wrong(err error, e api.Errno, pos, index int) string {
	var n api.Errno
	if found := errors.As(err, &n); found != (e != 0) || n != e {
		return "the number is " + strconv.Itoa(int(n)) + ", not " + strconv.Itoa(int(e))
	}
	if e == 0 && err != nil {
		return "there is an error without a number"
	}
	at := api.At{Pos: None}
	if errors.As(err, &at); at.Pos != pos {
		return "the place is " + strconv.Itoa(at.Pos) + ", not " + strconv.Itoa(pos)
	}
	in := api.In{Index: None}
	if errors.As(err, &in); in.Index != index {
		return "the index is " + strconv.Itoa(in.Index) + ", not " + strconv.Itoa(index)
	}
	return ""
}
