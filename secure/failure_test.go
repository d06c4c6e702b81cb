package secure

import (
	"errors"
	"testing"

	"smartcard/api"
)

// wrapped is an error around another one.
type wrapped struct{ inner error }

func (w wrapped) Error() string { return "around: " + w.inner.Error() }

func (w wrapped) Unwrap() error { return w.inner }

func TestCode(t *testing.T) {
	for _, x := range []struct {
		err  error
		want api.Errno
	}{{nil, api.OK}, {errors.New("another one"), api.OK}, {failure{api.ErrWrong}, api.ErrWrong}, {wrapped{failure{api.ErrForm}}, api.ErrForm}} {
		if got := code(x.err); got != x.want {
			t.Error("the code of", x.err, "is", got, "and not", x.want)
		}
	}
	if text := (failure{api.ErrWrong}).Error(); text != "secure messaging: error 17" {
		t.Error("the text is", text)
	}
}
