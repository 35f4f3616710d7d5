package journal

import (
	"strings"

	"grapnel/api"
	"grapnel/pack"
	"grapnel/plate"
	"grapnel/vault"
)

// Format lays the first superblock, and blanks the other slot and the journal's promise.
func Format(p *plate.Plate, v *vault.Vault, s api.Super) api.Errno {
	if !isOf(p, s) {
		return api.ErrArg
	}
	if e := unsealable(v, s); e != api.OK {
		return e
	}
	super, e := superOn(p, v, s)
	if e != api.OK {
		return e
	}
	return answer(follow(p, step{blank(slots - 1 - super.Address), blank(commitAt)}, step{super}))
}

// Anew writes a superblock alone.
func Anew(p *plate.Plate, v *vault.Vault, s api.Super) api.Errno {
	if e := unsealable(v, s); e != api.OK {
		return e
	}
	if !isOf(p, s) {
		return api.ErrArg
	}
	super, e := superOn(p, v, s)
	if e != api.OK {
		return e
	}
	return answer(follow(p, step{super}))
}

// Commit writes blocks and the superblock, all or nothing: records, the promise, the blocks in their places, the superblock.
func Commit(p *plate.Plate, v *vault.Vault, ws []api.Write, next api.Super) api.Errno {
	if len(ws) > api.Records {
		return api.ErrLong
	}
	l, e := layoutOf(p)
	if e != api.OK || l.Live != next.Live || !together(l, ws) {
		return api.ErrArg
	}
	if e := unsealable(v, next); e != api.OK {
		return e
	}
	if !p.Up() {
		return api.ErrPower
	}
	promised, e := promise(v, ws, next)
	if e != api.OK {
		return e
	}
	super, e := Super(v, next)
	if e != api.OK {
		return e
	}
	return answer(follow(p, records(l, ws), step{promised}, ws, step{super}))
}

// isOf tells whether a superblock is one of a device's living part.
func isOf(p *plate.Plate, s api.Super) bool {
	live, e := Live(p)
	return e == api.OK && live == s.Live
}

// unsealable is the error that a superblock's block, or a promise of it, would have. It is asked ahead of all that is hashed or sealed: a call that fails takes no number of the ideal vault.
func unsealable(v *vault.Vault, s api.Super) api.Errno {
	if _, e := pack.Super(s); e != api.OK {
		return e
	}
	// Open numbers nothing. With this nonce it refuses its arguments only under a vault that nobody gave.
	if _, e := v.Open(0, zeros(api.NonceBytes), "", ""); e == api.ErrArg {
		return e
	}
	return api.OK
}

// superOn is a superblock's block, sealed only where there is power to write it.
func superOn(p *plate.Plate, v *vault.Vault, s api.Super) (api.Write, api.Errno) {
	if !p.Up() {
		return api.Write{}, api.ErrPower
	}
	return Super(v, s)
}

// together tells whether blocks that are not too many may be written together, in a layout.
func together(l api.Layout, ws []api.Write) bool {
	least := l.Blocks
	for _, w := range ws {
		if w.Address < least || w.Address >= l.Live || !headed(w) {
			return false
		}
		least = w.Address + 1
	}
	return true
}

// headed tells whether a block's bytes are as many as they must be, and have a head of its address.
func headed(w api.Write) bool {
	if len(w.Raw) != api.BlockBytes {
		return false
	}
	h, e := pack.HeadOf(w.Raw[:api.HeadBytes])
	return e == api.OK && h.Address == w.Address
}

// records is the blocks where the journal has them.
func records(l api.Layout, ws []api.Write) step {
	var s step
	for i, w := range ws {
		s = append(s, api.Write{Address: l.Log + i, Raw: w.Raw})
	}
	return s
}

// blank is a block of bytes 0.
func blank(at int) api.Write { return api.Write{Address: at, Raw: zeros(api.BlockBytes)} }

func zeros(n int) string { return strings.Repeat("\x00", n) }
