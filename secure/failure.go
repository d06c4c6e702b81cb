package secure

import (
	"errors"
	"strconv"

	"smartcard/api"
)

// failure is why something cannot be protected, or is not accepted.
type failure struct {
	e api.Errno
}

func (f failure) Error() string { return "secure messaging: error " + strconv.Itoa(int(f.e)) }

// code returns the error code of a failure; OK if there is none.
func code(err error) api.Errno {
	var f failure
	if errors.As(err, &f) {
		return f.e
	}
	return api.OK
}
