package journal

import (
	"strings"

	"grapnel/api"
	"grapnel/block"
	"grapnel/pack"
	"grapnel/plate"
	"grapnel/vault"
)

// commitAt is where a promise stands, in every layout.
const commitAt = 2

// A promise's body: how many blocks, their hash, what a superblock's body has ahead of its bytes 0.
const (
	countBytes = 2
	superAt    = countBytes + api.HashBytes
	superBytes = 54
)

// promise is the promise of blocks and the superblock that is to come.
func promise(v *vault.Vault, ws []api.Write, next api.Super) (api.Write, api.Errno) {
	super, e := pack.Super(next)
	if e != api.OK {
		return api.Write{}, e
	}
	// Both have room: the blocks are at most 24.
	count, _ := pack.Put(len(ws), countBytes)
	body, _ := pack.Pad(count+v.Hash(joined(ws))+super[:superBytes], api.BodyBytes)
	h := api.Head{Volume: next.Volume, Address: commitAt, Kind: api.KindCommit, Version: next.Epoch, Salt: next.Epoch}
	raw, e := block.Seal(v, h, body)
	if e != api.OK {
		return api.Write{}, e
	}
	return api.Write{Address: h.Address, Raw: raw}, api.OK
}

// joined is all bytes of blocks, one behind the other.
func joined(ws []api.Write) string {
	var b strings.Builder
	for _, w := range ws {
		b.WriteString(w.Raw)
	}
	return b.String()
}

// Found is what the journal promises, if its promise is right: the blocks, and the superblock that is to come.
func Found(v *vault.Vault, l api.Layout, im api.Image) ([]api.Write, api.Super, bool) {
	r := block.Look(v, im, commitAt)
	count, next, ok := promiseIn(r, l.Live)
	if !ok {
		return nil, api.Super{}, false
	}
	ws, ok := recorded(l, im, count)
	// The hash is asked last, since the ideal vault numbers what it was not asked ahead.
	if !ok || !together(l, ws) || v.Hash(joined(ws)) != r.Body[countBytes:superAt] {
		return nil, api.Super{}, false
	}
	return ws, next, true
}

// promiseIn is what a reading promises, if it is a promise for such a living part: how many blocks, and the superblock.
func promiseIn(r api.Reading, live int) (int, api.Super, bool) {
	if !r.Ok || r.Head.Kind != api.KindCommit {
		return 0, api.Super{}, false
	}
	count, e := pack.Get(r.Body, 0, countBytes)
	if e != api.OK || count > api.Records {
		return 0, api.Super{}, false
	}
	// All that is left of the body, and so the bytes 0 behind the superblock's own are asked for, too.
	text, e := pack.Pad(r.Body[superAt:], api.BodyBytes)
	if e != api.OK {
		return 0, api.Super{}, false
	}
	next, e := pack.SuperOf(text)
	if e != api.OK || next.Live != live {
		return 0, api.Super{}, false
	}
	return count, next, true
}

// recorded is so many of the journal's records, at the addresses that their heads tell.
func recorded(l api.Layout, im api.Image, count int) ([]api.Write, bool) {
	var ws []api.Write
	for i := range count {
		raw, mask := block.At(im, l.Log+i)
		if mask != 0 {
			return nil, false
		}
		// Where there is no head, the block may not be written with others, which is asked of all.
		h, _ := pack.HeadOf(raw[:api.HeadBytes])
		ws = append(ws, api.Write{Address: h.Address, Raw: raw})
	}
	return ws, true
}

// Recover is the superblock, behind what the journal had promised was done: how many blocks.
func Recover(p *plate.Plate, v *vault.Vault) (api.Super, int, api.Errno) {
	if !p.Up() {
		return api.Super{}, 0, api.ErrPower
	}
	l, e := layoutOf(p)
	if e != api.OK {
		return api.Super{}, 0, e
	}
	s, ok := Choose([]api.Reading{block.Load(p, v, 0), block.Load(p, v, 1)}, l.Live)
	if !ok {
		return api.Super{}, 0, api.ErrSuper
	}
	ws, next, ok := Found(v, l, block.All(p))
	if !ok || next.Epoch != s.Epoch+1 {
		return s, 0, api.OK
	}
	super, e := Super(v, next)
	if e != api.OK {
		return api.Super{}, 0, e
	}
	if e := answer(follow(p, ws, step{super})); e != api.OK {
		return api.Super{}, 0, e
	}
	return next, len(ws), api.OK
}
