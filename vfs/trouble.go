package vfs

import (
	"errors"
	"strconv"

	"grapnel/api"
)

// trouble is why something can't be done: what it is about, and the error that is told of it.
type trouble struct {
	about string
	why   error
}

func (x trouble) Error() string { return x.about + ": " + x.why.Error() }

func (x trouble) Unwrap() error { return x.why }

// refused is an error's number about something; nil, if it is none.
func refused(about string, e api.Errno) error {
	if e == api.OK {
		return nil
	}
	return trouble{about: about, why: e}
}

// damaged is what is told of a block that is not what it must be.
func damaged(at int) error { return refused("block "+strconv.Itoa(at), api.ErrDamage) }

// told is the number in why something can't be done.
func told(err error) api.Errno {
	var e api.Errno
	if errors.As(err, &e) {
		return e
	}
	return api.OK
}
