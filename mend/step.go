package mend

import (
	"errors"

	"grapnel/api"
	"grapnel/plate"
	"grapnel/vault"
)

// sector is what is to be written to a place of a device.
type sector struct {
	at   int
	text string
}

// step is sectors that are written one behind the other, and flushed: nothing of a later step lasts unless all of these do.
type step struct {
	what    string
	sectors []sector
}

// steps is what a repair writes. What a plan says is written only when all is kept by which it can be begun anew.
func (w work) steps(v *vault.Vault) []step {
	if len(w.blocks) == 0 {
		return nil
	}
	var l []step
	if !w.stands {
		l = append(l, step{"list and old blocks", append(cut(w.list()), cut(w.old())...)}, step{"promise", []sector{w.promise(v)}})
	}
	done := sector{at: w.layout.Plan * api.Sectors, text: zeros(api.SectorBytes)}
	return append(l, step{"blocks", cut(w.blocks)}, step{"promise done", []sector{done}})
}

// cut is the sectors of blocks.
func cut(ws []api.Write) []sector {
	var l []sector
	for _, w := range ws {
		for i := range api.Sectors {
			l = append(l, sector{at: w.Address*api.Sectors + i, text: w.Raw[i*api.SectorBytes : (i+1)*api.SectorBytes]})
		}
	}
	return l
}

// stop is why a repair ended: in which step, and its error.
type stop struct {
	step string
	why  api.Errno
}

func (x stop) Error() string { return x.step + ": " + x.why.Error() }

func (x stop) Unwrap() error { return x.why }

// take does a step, as far as it goes.
func (s step) take(p *plate.Plate) api.Errno {
	for _, x := range s.sectors {
		if e := p.Write(x.at, x.text); e != api.OK {
			return e
		}
	}
	return p.Flush()
}

// follow takes steps till one fails: why they ended, nil behind the last.
func follow(p *plate.Plate, steps []step) error {
	for _, s := range steps {
		if e := s.take(p); e != api.OK {
			return stop{step: s.what, why: e}
		}
	}
	return nil
}

// answer is what a repair tells whose steps ended so.
func answer(err error) api.Errno {
	switch {
	case err == nil:
		return api.OK
	case errors.Is(err, api.ErrPower):
		return api.ErrPower
	}
	// All places and lengths are those of the device's layout, so nothing else ends steps; if it did, a sector would be to blame.
	return api.ErrArg
}
