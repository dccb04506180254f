// Package fault has the errors that the layers tell one another within: an error is wrapped by where it came about; a face tells a no, or an api.Errno, of it.
package fault

import (
	"errors"
	"strconv"

	"rabbet/api"
)

// What may be wrong.
var (
	ErrShort = errors.New("it ends too soon")
	ErrSpare = errors.New("there is more than its Put has")
	ErrValue = errors.New("it may not be")
	ErrType  = errors.New("it is of another type")
	ErrBound = errors.New("it is out of bounds")
)

// Errno is an api.Errno as an error.
type Errno api.Errno

func (e Errno) Error() string { return "errno " + strconv.Itoa(int(e)) }

// Where is an error, and where it came about: the place-th of What.
type Where struct {
	What  string
	Place int
	Err   error
}

func (w *Where) Error() string {
	return w.What + " " + strconv.Itoa(w.Place) + ": " + w.Err.Error()
}

// Unwrap is what went wrong there.
func (w *Where) Unwrap() error { return w.Err }

// At wraps an error by where it came about; none stays none.
func At(what string, place int, err error) error {
	if err == nil {
		return nil
	}
	return &Where{What: what, Place: place, Err: err}
}

// Of is e as an error; OK is none.
func Of(e api.Errno) error {
	if e == api.OK {
		return nil
	}
	return Errno(e)
}

// Tell is the Errno that an error bears: none is OK, one that bears none says that bytes say nothing.
func Tell(err error) api.Errno {
	if err == nil {
		return api.OK
	}
	var e Errno
	if errors.As(err, &e) {
		return api.Errno(e)
	}
	return api.EForm
}

// List is a list, or, beside an error, nothing and a no.
func List[T any](l []T, err error) ([]T, bool) {
	if err != nil {
		return nil, false
	}
	return l, true
}
