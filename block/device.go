package block

import (
	"errors"
	"strconv"

	"grapnel/api"
	"grapnel/plate"
	"grapnel/vault"
)

// sectorError is an error of a sector of a device: which one, and why.
type sectorError struct {
	sector int
	why    api.Errno
}

func (x sectorError) Error() string {
	return "sector " + strconv.Itoa(x.sector) + ": " + x.why.Error()
}

func (x sectorError) Unwrap() error { return x.why }

// wrapped is a sector's error with the sector's number; nil, if it is none.
func wrapped(sector int, e api.Errno) error {
	if e == api.OK {
		return nil
	}
	return sectorError{sector: sector, why: e}
}

// numberOf is the number in an error of a sector.
func numberOf(err error) api.Errno {
	var e api.Errno
	if errors.As(err, &e) {
		return e
	}
	return api.OK
}

func readSector(p *plate.Plate, sector int) (string, error) {
	s, e := p.Read(sector)
	return s, wrapped(sector, e)
}

func writeSector(p *plate.Plate, sector int, s string) error {
	return wrapped(sector, p.Write(sector, s))
}

// blocks is how many a device has. What is left of its sectors behind them belongs to none.
func blocks(p *plate.Plate) int { return p.Sectors() / api.Sectors }

// has tells whether there is such a block. It is asked ahead of the sectors' numbers, which have room only then.
func has(p *plate.Plate, at int) bool { return at >= 0 && at < blocks(p) }

// Get reads a block, and tells which of its sectors can't be read: a number of bits.
func Get(p *plate.Plate, at int) (string, int, api.Errno) {
	if p == nil {
		return "", 0, api.ErrArg
	}
	if !has(p, at) {
		return "", 0, api.ErrRange
	}
	raw, mask := make([]byte, 0, api.BlockBytes), 0
	for i := range api.Sectors {
		s, err := readSector(p, api.Sectors*at+i)
		switch e := numberOf(err); e {
		case api.OK:
			raw = append(raw, s...)
		case api.ErrSector:
			raw = append(raw, zeros(api.SectorBytes)...)
			mask |= 1 << i
		default:
			return "", 0, e
		}
	}
	return string(raw), mask, api.OK
}

// Put writes a block. Where a sector fails, those ahead of it are written.
func Put(p *plate.Plate, at int, raw string) api.Errno {
	if p == nil || !whole(raw) {
		return api.ErrArg
	}
	if !has(p, at) {
		return api.ErrRange
	}
	for i := range api.Sectors {
		s := raw[api.SectorBytes*i : api.SectorBytes*(i+1)]
		if err := writeSector(p, api.Sectors*at+i, s); err != nil {
			return numberOf(err)
		}
	}
	return api.OK
}

// Load reads what is authentic at an address.
func Load(p *plate.Plate, v *vault.Vault, at int) api.Reading {
	raw, mask, e := Get(p, at)
	if e != api.OK || mask != 0 {
		return api.Reading{}
	}
	return Told(v, raw, at)
}
