package plan

import (
	"errors"
	"strconv"

	"strata/api"
)

// fault is an error within: it wraps the number that the face answers.
type fault struct{ code api.Errno }

// Error tells the number.
func (f fault) Error() string { return "error " + strconv.Itoa(int(f.code)) }

// refusal is what a statement is refused with: its transaction goes on.
type refusal struct{ cause error }

// Error tells what stands behind it.
func (r refusal) Error() string { return "refused: " + r.cause.Error() }

// Unwrap tells the error behind it.
func (r refusal) Unwrap() error { return r.cause }

// codeOf tells the number that an error wraps.
func codeOf(err error) api.Errno {
	var f fault
	if errors.As(err, &f) {
		return f.code
	}
	return api.OK
}

// isRefusal tells whether an error leaves the transaction as it is.
func isRefusal(err error) bool {
	var r refusal
	return errors.As(err, &r)
}

// told is what a face answers: beside an error nothing else.
func told[T any](answer T, err error) (T, api.Errno) {
	if code := codeOf(err); code != api.OK {
		var none T
		return none, code
	}
	return answer, api.OK
}

// caught tells what a work gives, or the error with whose number it gave up.
func caught[T any](work func() T) (answer T, err error) {
	defer func() {
		switch thrown := recover().(type) {
		case nil:
		case api.Errno:
			err = fault{thrown}
		default:
			panic(thrown)
		}
	}()
	return work(), nil
}

// orGiveUp gives up within a work that is caught.
func orGiveUp[T any](answer T, err error) T {
	if err != nil {
		panic(codeOf(err))
	}
	return answer
}

// eachOf checks a list entry by entry, up to the first that is wrong.
func eachOf[T any](list []T, check func(i int, entry T) error) error {
	for i, entry := range list {
		if err := check(i, entry); err != nil {
			return err
		}
	}
	return nil
}

// faultIf is an error, if something is wrong.
func faultIf(wrong bool, code api.Errno) error {
	if wrong {
		return fault{code}
	}
	return nil
}
