package engine

import (
	"errors"
	"strconv"

	"spindle/api"
)

var (
	errLine = errors.New("a line that may not be")
	errLong = errors.New("a script that is too long")
)

// A refusal says which line of a text is refused, and wraps why.
type refusal struct {
	line int
	why  error
}

func (r *refusal) Error() string { return "line " + strconv.Itoa(r.line) + ": " + r.why.Error() }

func (r *refusal) Unwrap() error { return r.why }

// told gives what Parse answers of an error: the line, if it is one of a line, and the error's number.
func told(err error) (int, api.Errno) {
	line, e := 0, api.OK
	var r *refusal
	if errors.As(err, &r) {
		line = r.line
	}
	switch {
	case errors.Is(err, errLong):
		e = api.ErrScript
	case errors.Is(err, errLine):
		e = api.ErrLine
	}
	return line, e
}
