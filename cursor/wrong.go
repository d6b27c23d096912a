package cursor

import (
	"errors"
	"strconv"

	"clevis/api"
)

// Wrong tells where a cursor has failed, and wraps why.
type Wrong struct {
	At  int
	Err api.Errno
}

// Error tells the place, and the error's word.
func (w *Wrong) Error() string {
	if w == nil {
		return ""
	}
	return "at " + strconv.Itoa(w.At) + ": " + w.Err.Word()
}

// Unwrap is its Errno.
func (w *Wrong) Unwrap() error {
	if w == nil {
		return nil
	}
	return w.Err
}

// maxLevels is how deep the document lets things nest.
const maxLevels = 1 << 16

// Code is the Errno that an error is, or wraps: OK of nil, ErrArg where there is none.
func Code(err error) (code api.Errno) {
	if err == nil {
		return api.OK
	}
	// An error of somebody else's may panic when it is asked.
	defer func() {
		if recover() != nil {
			code = api.ErrArg
		}
	}()
	var found api.Errno
	if endless(err) || !errors.As(err, &found) {
		return api.ErrArg
	}
	return found
}

// endless: does an error wrap one after the other beyond all bounds? In one that wraps itself errors.As would go round for ever.
func endless(err error) bool {
	// Whether a panic here counts is left to errors.As, which may find an Errno ahead of it.
	defer func() { _ = recover() }()
	for range maxLevels + 1 {
		err = errors.Unwrap(err)
		if err == nil {
			return false
		}
	}
	return true
}
