package block

import (
	"strings"

	"grapnel/api"
	"grapnel/plate"
	"grapnel/vault"
)

// allDumb is the number of a block no sector of which can be read.
const allDumb = 1<<api.Sectors - 1

// All is what stands on a device; a block that can't be had is bytes 0, no sector of which can be read.
func All(p *plate.Plate) api.Image {
	var im api.Image
	for at := range blocks(p) {
		raw, mask, e := Get(p, at)
		if e != api.OK {
			raw, mask = zeros(api.BlockBytes), allDumb
		}
		im.Raws = append(im.Raws, raw)
		im.Masks = append(im.Masks, mask)
	}
	return im
}

// At is a block of an image; where there is none: bytes 0, no sector of which can be read.
func At(im api.Image, at int) (string, int) {
	if at < 0 || at >= len(im.Raws) || at >= len(im.Masks) || !whole(im.Raws[at]) {
		return zeros(api.BlockBytes), allDumb
	}
	return strings.Clone(im.Raws[at]), im.Masks[at]
}

// Look reads what is authentic at an address of an image.
func Look(v *vault.Vault, im api.Image, at int) api.Reading {
	raw, mask := At(im, at)
	if mask != 0 {
		return api.Reading{}
	}
	return Told(v, raw, at)
}
