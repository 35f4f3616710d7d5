package mend

import (
	"strings"

	"grapnel/api"
	"grapnel/block"
	"grapnel/chart"
	"grapnel/journal"
	"grapnel/pack"
	"grapnel/tree"
	"grapnel/vault"
	"grapnel/vfs"
)

// toCome is the superblock to come, ahead of a plan's blocks: Next is the first of their Versions, and there is no Root yet.
func toCome(x api.Evidence) api.Super {
	volume, salt, version := 0, 0, 0
	for _, r := range x.Readings {
		if r.Ok {
			volume, salt, version = r.Head.Volume, max(salt, r.Head.Salt), max(version, r.Head.Version)
		}
	}
	s := api.Super{Volume: x.Super.Volume, Epoch: x.Super.Epoch + 1, Next: max(x.Super.Next, version+1), Live: x.Live}
	if !x.Has {
		s.Volume, s.Epoch = volume, salt+version+1
	}
	return s
}

// heads is the heads of the blocks that are wanted.
func heads(next api.Super, wants []api.Want) []api.Head {
	l := make([]api.Head, len(wants))
	for i, w := range wants {
		l[i] = api.Head{Volume: next.Volume, Address: w.Address, Kind: w.Kind, Ino: w.Ino, Gen: w.Gen, Index: w.Index, Version: next.Next + i, Salt: next.Epoch}
	}
	return l
}

// sealed is a plan's blocks: the superblock's, and behind it those that are wanted, since they rise from the grids' on.
func sealed(v *vault.Vault, im api.Image, next api.Super, c api.Verdict) ([]api.Write, api.Errno) {
	hs := heads(next, c.Wants)
	next.Next += len(hs)
	if e := roomless(next, hs); e != api.OK {
		return nil, e
	}
	var ws []api.Write
	for i, h := range hs {
		raw, e := block.Seal(v, h, c.Wants[i].Body)
		if e != api.OK {
			return nil, e
		}
		ws = append(ws, api.Write{Address: h.Address, Raw: raw})
	}
	next.Root = rootWith(v, im, next.Live, c.Used, ws)
	super, e := journal.Super(v, next)
	if e != api.OK {
		return nil, e
	}
	return append([]api.Write{super}, ws...), api.OK
}

// roomless is the error of a number that has no room in a plan's blocks. It is asked ahead of all that is sealed: a call that fails takes no number of the ideal vault for that.
func roomless(next api.Super, hs []api.Head) api.Errno {
	for _, h := range hs {
		if _, e := pack.Head(h); e != api.OK {
			return e
		}
	}
	next.Root = zeros(api.HashBytes)
	_, e := pack.Super(next)
	return e
}

// rootWith is the root over the tags of what is used, with blocks in their places.
func rootWith(v *vault.Vault, im api.Image, live int, used []int, ws []api.Write) string {
	// What was gathered has a layout.
	l, _ := chart.Layout(live)
	is := make([]bool, live)
	for _, at := range used {
		is[at] = true
	}
	tags := vfs.Leaves(l, is, im)
	// Tags are put in their places, not blocks: an image may have no place for one.
	for _, w := range ws {
		tags[w.Address] = block.Tag(w.Raw)
	}
	return tree.New(v, tags).Root()
}

func zeros(n int) string { return strings.Repeat("\x00", n) }
