package cursor_test

import (
	"errors"
	"fmt"
	"testing"

	"clevis/api"
	"clevis/cursor"
)

// P1.3 (Code)

// own is an error that goes for another one when it is asked.
type own struct{ code api.Errno }

func (o own) Error() string { return "own" }

func (o own) As(target any) bool {
	code, is := target.(*api.Errno)
	if is {
		*code = o.code
	}
	return is
}

// ownAndRude goes for another one, too, but can't be unwrapped.
type ownAndRude struct{ own }

func (ownAndRude) Unwrap() error { panic("unwrapped") }

// rude panics when it is unwrapped.
type rude struct{}

func (rude) Error() string { return "rude" }

func (rude) Unwrap() error { panic("unwrapped") }

// round wraps itself.
type round struct{}

func (round) Error() string { return "round" }

func (r round) Unwrap() error { return r }

// deep wraps what is so many levels further down.
type deep struct {
	left int
	last error
}

func (d deep) Error() string { return "deep" }

func (d deep) Unwrap() error {
	if d.left == 1 {
		return d.last
	}
	return deep{d.left - 1, d.last}
}

func TestCode(t *testing.T) {
	failed := cursor.New(nil, false)
	failed.Fail()
	var none *cursor.Cursor
	plain := errors.New("plain")
	for _, x := range []struct {
		what string
		err  error
		want api.Errno
	}{
		{"nil", nil, api.OK},
		{"OK itself", api.OK, api.OK},
		{"itself", api.ErrTwice, api.ErrTwice},
		{"one that api does not know", api.Errno(99), 99},
		{"a Fault", &api.Fault{Phase: api.PhaseLay, Image: "a", Err: api.ErrTrie}, api.ErrTrie},
		{"a Wrong", failed.Wrong(), api.ErrShort},
		{"a nil cursor's Wrong", none.Wrong(), api.ErrNil},
		{"a Wrong of OK", &cursor.Wrong{At: 1}, api.OK},
		{"wrapped", fmt.Errorf("x: %w", api.ErrRoom), api.ErrRoom},
		{"wrapped twice", fmt.Errorf("x: %w", fmt.Errorf("y: %w", api.ErrRoom)), api.ErrRoom},
		{"joined", errors.Join(plain, api.ErrMagic, api.ErrArch), api.ErrMagic},
		{"joined, in depth first", errors.Join(plain, fmt.Errorf("x: %w", api.ErrProt), api.ErrArch), api.ErrProt},
		{"joined, and wrapped", fmt.Errorf("%w and %w", plain, errors.Join(plain, api.ErrMany)), api.ErrMany},
		{"plain", plain, api.ErrArg},
		{"wrapped plain", fmt.Errorf("x: %w", plain), api.ErrArg},
		{"joined plain", errors.Join(plain, plain), api.ErrArg},
		{"told in text alone", fmt.Errorf("x: %v", api.ErrRoom), api.ErrArg},
		{"one that goes for another", own{api.ErrChain}, api.ErrChain},
		{"one that goes for another, and panics unwrapped", ownAndRude{own{api.ErrChain}}, api.ErrChain},
	} {
		if got := cursor.Code(x.err); got != x.want {
			t.Errorf("Code of %s is %v (%d), want %v", x.what, got, got, x.want)
		}
	}
}

// P0.3 (within bounds): whatever error is handed in, Code answers.
func TestCodeOfBadErrors(t *testing.T) {
	var noFault *api.Fault
	for _, x := range []struct {
		what string
		err  error
	}{
		{"a nil Fault", noFault},
		{"one that panics", rude{}},
		{"one that wraps one that panics", fmt.Errorf("x: %w", rude{})},
		{"one that wraps itself", round{}},
		{"one that wraps one that wraps itself", fmt.Errorf("x: %w", round{})},
	} {
		if got := cursor.Code(x.err); got != api.ErrArg {
			t.Errorf("Code of %s is %v", x.what, got)
		}
	}
}

func TestCodeOfDeepErrors(t *testing.T) {
	for _, levels := range []int{1, 2, 1000, 1 << 16} {
		if got := cursor.Code(deep{levels, api.ErrImport}); got != api.ErrImport {
			t.Errorf("Code of %d levels is %v", levels, got)
		}
		if got := cursor.Code(deep{levels, errors.New("plain")}); got != api.ErrArg {
			t.Errorf("Code of %d levels around a plain one is %v", levels, got)
		}
	}
}
