package journal

import (
	"errors"
	"strconv"

	"grapnel/api"
	"grapnel/block"
	"grapnel/plate"
)

// step is blocks that are written one behind the other, and flushed: no block of a later step lasts unless all of these do.
type step []api.Write

// stop is why steps ended: at which of them, and its error.
type stop struct {
	step int
	why  api.Errno
}

func (x stop) Error() string {
	return "step " + strconv.Itoa(x.step) + ": " + x.why.Error()
}

func (x stop) Unwrap() error { return x.why }

// take does a step, as far as it goes.
func (s step) take(p *plate.Plate) api.Errno {
	for _, w := range s {
		if e := block.Put(p, w.Address, w.Raw); e != api.OK {
			return e
		}
	}
	return p.Flush()
}

// follow takes steps till one fails: why they ended, nil behind the last.
func follow(p *plate.Plate, steps ...step) error {
	for i, s := range steps {
		if e := s.take(p); e != api.OK {
			return stop{step: i, why: e}
		}
	}
	return nil
}

// answer is what a call tells whose steps ended so.
func answer(err error) api.Errno {
	switch {
	case err == nil:
		return api.OK
	case errors.Is(err, api.ErrPower):
		return api.ErrPower
	}
	// Addresses and lengths were looked at ahead, so nothing else ends steps; if it did, a block would be to blame.
	return api.ErrArg
}
