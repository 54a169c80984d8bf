// Package fault makes errors, and tells what they say. See ../../shared/doc/01-fault.md.
package fault

import (
	"errors"

	"weir/api"
)

// New is an error of a number.
func New(e api.Errno) error {
	if e == 0 {
		return nil
	}
	return e
}

// At is one with a place.
func At(pos int, e api.Errno) error {
	if e == 0 {
		return nil
	}
	return api.At{Pos: pos, Err: e}
}

// In is one of one of several things.
func In(index int, err error) error {
	if err == nil {
		return nil
	}
	return api.In{Index: index, Err: err}
}

// Code is an error's number.
func Code(err error) api.Errno {
	e, _ := find[api.Errno](err)
	return e
}

// Place is where it stands.
func Place(err error) (int, bool) {
	at, ok := find[api.At](err)
	return at.Pos, ok
}

// Index is of which thing it is.
func Index(err error) (int, bool) {
	in, ok := find[api.In](err)
	return in.Index, ok
}

// find asks errors.As, which runs methods of errors that others made: where
// one of these panics nothing is found, and what it laid down by then (or
// laid down and then said no) is not told.
func find[T error](err error) (found T, ok bool) {
	defer func() { _ = recover() }()
	var asked T
	if !errors.As(err, &asked) {
		return found, false
	}
	return asked, true
}
