package survey

import (
	"grapnel/api"
	"grapnel/block"
	"grapnel/chart"
	"grapnel/grid"
	"grapnel/journal"
	"grapnel/tree"
	"grapnel/vault"
	"grapnel/vfs"
)

// Gather is the evidence of an image whose living part has so many blocks.
func Gather(v *vault.Vault, live int, im api.Image) (api.Evidence, api.Errno) {
	l, e := chart.Layout(live)
	if e != api.OK {
		return api.Evidence{}, e
	}
	x := api.Evidence{Live: live, Readings: make([]api.Reading, live)}
	for at := range live {
		if at >= l.Blocks {
			x.Readings[at] = block.Look(v, im, at)
		}
	}
	ws, next, promised := journal.Found(v, l, im)
	x.Super, x.Has = journal.Choose([]api.Reading{block.Look(v, im, 0), block.Look(v, im, 1)}, live)
	x.Kept = x.Has
	if promised && (!x.Has || next.Epoch > x.Super.Epoch) {
		x.Super, x.Has, x.Kept = next, true, false
	}
	laid := lay(&x, v, ws)
	x.Rooted = x.Has && isRooted(v, l, im, laid, x)
	return x, api.OK
}

// lay lays those blocks of a promise over the readings that are later than what stands there, and tells which they are.
func lay(x *api.Evidence, v *vault.Vault, ws []api.Write) []api.Write {
	var laid []api.Write
	for _, w := range ws {
		r := block.Told(v, w.Raw, w.Address)
		was := x.Readings[w.Address]
		if r.Ok && (!was.Ok || was.Head.Version < r.Head.Version) {
			x.Readings[w.Address] = r
			x.Stale = append(x.Stale, w.Address)
			laid = append(laid, w)
		}
	}
	return laid
}

// isRooted tells whether the tags that the grid of blocks says count have the superblock's root.
func isRooted(v *vault.Vault, l api.Layout, im api.Image, laid []api.Write, x api.Evidence) bool {
	r := x.Readings[l.Blocks]
	if !r.Ok || r.Head.Kind != api.KindBlocks {
		return false
	}
	g, e := grid.Of(r.Body, l.Live)
	if e != api.OK {
		return false
	}
	tags := vfs.Leaves(l, vfs.Used(g), im)
	// Tags are put in their places, not blocks: an image may have no place for one.
	for _, w := range laid {
		if g.Has(w.Address) {
			tags[w.Address] = block.Tag(w.Raw)
		}
	}
	return tree.New(v, tags).Root() == x.Super.Root
}
