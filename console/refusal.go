package console

import (
	"strconv"

	"spindle/api"
)

// A refusal is why a line is refused: an error's number.
type refusal struct {
	code api.Errno
}

func (r *refusal) Error() string { return "error " + strconv.Itoa(int(r.code)) }

// refused gives an error of a call's answer: none, if that is none.
func refused(e api.Errno) error {
	if e == api.OK {
		return nil
	}
	return &refusal{e}
}
