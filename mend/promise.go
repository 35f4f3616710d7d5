package mend

import (
	"slices"
	"strings"

	"grapnel/api"
	"grapnel/block"
	"grapnel/pack"
	"grapnel/survey"
	"grapnel/vault"
)

// A promise's sector: a text, how many blocks, the hash of the living part; the mark of these; bytes 0.
const (
	planText   = "PLAN"
	purpose    = "plan"
	countBytes = 4
	markedAt   = len(planText) + countBytes + api.HashBytes
	restAt     = markedAt + api.TagBytes
)

// A list's entries: an address, and which sectors could not be read.
const (
	addressBytes = 4
	maskBytes    = 4
	entryBytes   = addressBytes + maskBytes
	listed       = api.BlockBytes / entryBytes // entries of a block
	maxMask      = 1<<api.Sectors - 1
)

// marked is what a promise's mark is made of: how many blocks are written over a device that is so now.
func marked(v *vault.Vault, l api.Layout, was api.Image, count int) string {
	// It has room: it is a count of the living part's blocks.
	number, _ := pack.Put(count, countBytes)
	return planText + number + v.Hash(living(l, was))
}

// living is all that the living part of an image says.
func living(l api.Layout, im api.Image) string {
	var b strings.Builder
	for at := range l.Live {
		raw, mask := block.At(im, at)
		b.WriteString(raw)
		b.WriteByte(byte(mask))
	}
	return b.String()
}

// signed is a promise's sector, of what its mark is made of, and that mark.
func signed(text, mark string) string { return text + mark + zeros(api.SectorBytes-restAt) }

// promise is the sector by which a plan is promised.
func (w work) promise(v *vault.Vault) sector {
	text := marked(v, w.layout, w.was, len(w.blocks))
	return sector{at: w.layout.Plan * api.Sectors, text: signed(text, v.Mac(purpose, text))}
}

// list is the blocks that tell what a plan writes over.
func (w work) list() []api.Write {
	raws := make([]string, (len(w.blocks)+listed-1)/listed)
	for i, x := range w.blocks {
		_, mask := block.At(w.was, x.Address)
		// All have room: an address of the living part, eight bits, and as many entries as a block takes.
		address, _ := pack.Put(x.Address, addressBytes)
		dumb, _ := pack.Put(mask, maskBytes)
		raws[i/listed] += address + dumb
	}
	ws := make([]api.Write, len(raws))
	for i, text := range raws {
		raw, _ := pack.Pad(text, api.BlockBytes)
		ws[i] = api.Write{Address: w.layout.List + i, Raw: raw}
	}
	return ws
}

// old is what a plan writes over, where it is kept.
func (w work) old() []api.Write {
	var ws []api.Write
	for i, x := range w.blocks {
		raw, _ := block.At(w.was, x.Address)
		ws = append(ws, api.Write{Address: w.layout.Old + i, Raw: raw})
	}
	return ws
}

// standing is the work that a repair promised that was cut off, if its plan stands.
func standing(v *vault.Vault, l api.Layout, im api.Image) (work, bool) {
	text, count, ok := promiseIn(v, l, im)
	if !ok {
		return work{}, false
	}
	was, addresses, ok := asItWas(l, im, count)
	if !ok || signed(marked(v, l, was, count), text[markedAt:restAt]) != text {
		return work{}, false
	}
	report, ws, e := Plan(v, l.Live, was)
	if e != api.OK || !slices.EqualFunc(ws, addresses, func(w api.Write, at int) bool { return w.Address == at }) {
		return work{}, false
	}
	for _, w := range ws {
		if !isBetween(w, was, im) {
			return work{}, false
		}
	}
	return work{layout: l, was: was, report: report, blocks: ws, stands: true}, true
}

// promiseIn is the sector of an image in which a plan is promised, and how many blocks it says, if its mark was made.
func promiseIn(v *vault.Vault, l api.Layout, im api.Image) (string, int, bool) {
	raw, mask := block.At(im, l.Plan)
	text := raw[:api.SectorBytes]
	if mask&1 != 0 || !v.Made(purpose, text[:markedAt], text[markedAt:restAt]) {
		return "", 0, false
	}
	// It stands in the text.
	count, _ := pack.Get(text, len(planText), countBytes)
	return text, count, count >= 1 && count <= l.Live
}

// asItWas is an image with so many old blocks in their places, and which these are, by the list.
func asItWas(l api.Layout, im api.Image, count int) (api.Image, []int, bool) {
	var ws []api.Write
	var addresses, masks []int
	last := -1
	for i := range count {
		list, dumb := block.At(im, l.List+i/listed)
		raw, gone := block.At(im, l.Old+i)
		// Both stand in the list.
		address, _ := pack.Get(list, i%listed*entryBytes, addressBytes)
		mask, _ := pack.Get(list, i%listed*entryBytes+addressBytes, maskBytes)
		if dumb != 0 || gone != 0 || address <= last || address >= l.Live || mask > maxMask {
			return api.Image{}, nil, false
		}
		last = address
		ws = append(ws, api.Write{Address: address, Raw: raw})
		addresses, masks = append(addresses, address), append(masks, mask)
	}
	was := survey.Over(im, ws)
	for i, at := range addresses {
		was.Masks[at] = masks[i]
	}
	return was, addresses, true
}

// isBetween tells whether each sector of a plan's block is what it was, or what the plan says.
func isBetween(w api.Write, was, now api.Image) bool {
	wasRaw, wasMask := block.At(was, w.Address)
	nowRaw, nowMask := block.At(now, w.Address)
	for i := range api.Sectors {
		from, to := i*api.SectorBytes, (i+1)*api.SectorBytes
		wasDumb, nowDumb := wasMask>>i&1 == 1, nowMask>>i&1 == 1
		isOld := nowDumb == wasDumb && (nowDumb || nowRaw[from:to] == wasRaw[from:to])
		isNew := !nowDumb && nowRaw[from:to] == w.Raw[from:to]
		if !isOld && !isNew {
			return false
		}
	}
	return true
}
