package script

import (
	"errors"
	"strconv"

	"aqueduct/api"
)

// fault is an error and its place: of a line's error a byte's, of a script's a line's.
type fault struct {
	place int
	err   error
}

func (f fault) Error() string {
	return f.err.Error() + " at " + strconv.Itoa(f.place)
}

func (f fault) Unwrap() error {
	return f.err
}

// ask answers the outermost place of an error, and its number; 0 and OK, if there is none.
func ask(err error) (int, api.Errno) {
	var f fault
	e := api.OK
	errors.As(err, &f)
	errors.As(err, &e)
	return f.place, e
}
