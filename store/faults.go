package store

import (
	"errors"
	"strconv"

	"strata/api"
)

// errLater is no fault: what was handed in has no reply yet.
var errLater = errors.New("the reply comes when it is done")

// fault is an error within: it wraps the number that a reply tells.
type fault struct{ code api.Errno }

// Error tells the number.
func (f fault) Error() string { return "error " + strconv.Itoa(int(f.code)) }

// fall is an error with which the store goes down (P17.10).
type fall struct{ cause error }

// Error tells what stands behind it.
func (f fall) Error() string { return "the store falls: " + f.cause.Error() }

// Unwrap tells the error behind it.
func (f fall) Unwrap() error { return f.cause }

// codeOf tells the number that an error wraps.
func codeOf(err error) api.Errno {
	var f fault
	if errors.As(err, &f) {
		return f.code
	}
	return api.OK
}

// isFall tells whether the store goes down with an error.
func isFall(err error) bool {
	var f fall
	return errors.As(err, &f)
}

// faultOf is an error, if a layer below has refused.
func faultOf(code api.Errno) error {
	if code == api.OK {
		return nil
	}
	return fault{code}
}

// asked is what a layer below has answered, its number as an error.
func asked[T any](answer T, code api.Errno) (T, error) { return answer, faultOf(code) }
