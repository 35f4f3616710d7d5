package vfs

import (
	"grapnel/api"
	"grapnel/block"
	"grapnel/chart"
	"grapnel/grid"
	"grapnel/journal"
	"grapnel/pack"
	"grapnel/plate"
	"grapnel/shelf"
	"grapnel/tree"
	"grapnel/vault"
)

const (
	maxVolume    = 1<<48 - 1
	firstVersion = 1
	firstGen     = 1 // of what is there from the beginning on
	lostName     = "lost+found"
)

// Make lays an empty file system on a device.
func Make(p *plate.Plate, v *vault.Vault, volume int) api.Errno {
	if !p.Up() {
		return api.ErrPower
	}
	live, e := journal.Live(p)
	if e != api.OK {
		return e
	}
	if volume < 0 || volume > maxVolume {
		return api.ErrArg
	}
	l, e := chart.Layout(live)
	if e != api.OK {
		return e
	}
	// All is sealed ahead of the first write: a vault that nobody gave is told here.
	ws, e := sealEmpty(v, l, volume)
	if e != api.OK {
		return e
	}
	tags := make([]string, l.Blocks)
	for i := range tags {
		tags[i] = zeros(api.TagBytes)
	}
	for _, w := range ws {
		if e := block.Put(p, w.Address, w.Raw); e != api.OK {
			return e
		}
		tags = append(tags, block.Tag(w.Raw))
	}
	for len(tags) < l.Live {
		tags = append(tags, zeros(api.TagBytes))
	}
	// Format flushes ahead of the superblock: where that lasts, all of these do.
	root := tree.New(v, tags).Root()
	return journal.Format(p, v, api.Super{Volume: volume, Next: firstVersion + len(ws), Live: live, Root: root})
}

// sealEmpty is the blocks of an empty file system, one for each address from the grids' on and below the data.
func sealEmpty(v *vault.Vault, l api.Layout, volume int) ([]api.Write, api.Errno) {
	var ws []api.Write
	for at := l.Blocks; at < l.Data; at++ {
		x, e := emptyAt(l, at)
		if e != api.OK {
			return nil, e
		}
		raw, e := block.Seal(v, x.head(volume, at, firstVersion+len(ws), 0), x.body)
		if e != api.OK {
			return nil, e
		}
		ws = append(ws, api.Write{Address: at, Raw: raw})
	}
	return ws, api.OK
}

// emptyAt is what an empty file system has at an address.
func emptyAt(l api.Layout, at int) (piece, api.Errno) {
	switch {
	case at == l.Blocks:
		return gridOf(api.KindBlocks, l.Live, l.Data)
	case at == l.Nodes:
		return gridOf(api.KindInodes, l.Inodes, api.LostIno)
	case at < l.Lost:
		return emptyNode(l, 1+at-l.Table).piece()
	case at < l.Root:
		return pageOf(api.LostIno, at-l.Lost, nil)
	}
	return pageOf(api.RootIno, 0, []api.Entry{{Name: lostName, Ino: api.LostIno, Gen: firstGen}})
}

// gridOf is a grid of n, of which the first ones are used.
func gridOf(kind, n, used int) (piece, api.Errno) {
	g, e := grid.New(n)
	if e != api.OK {
		return piece{}, e
	}
	if _, e := g.Take(used, 0); e != api.OK {
		return piece{}, e
	}
	return piece{id: id{kind: kind}, body: g.Body()}, api.OK
}

// emptyNode is an inode of an empty file system.
func emptyNode(l api.Layout, ino int) node {
	switch ino {
	case api.RootIno:
		return firstDir(ino, l.Root, 1)
	case api.LostIno:
		return firstDir(ino, l.Lost, l.LostBlocks)
	}
	return node{ino: ino}
}

// firstDir is a directory in the root that has so many blocks from an address on, few enough that the inode tells them all.
func firstDir(ino, at, blocks int) node {
	n := node{ino: ino, gen: firstGen, Inode: api.Inode{Kind: api.Dir, Links: 1, Size: blocks * api.BodyBytes, Parent: api.RootIno}}
	for i := range blocks {
		n.Direct[i] = at + i
	}
	return n
}

// pageOf is a block of one of these directories, with entries in its first slots.
func pageOf(ino, index int, l []api.Entry) (piece, api.Errno) {
	slots := make([]api.Entry, api.Slots)
	copy(slots, l)
	body, e := shelf.Body(slots)
	return piece{id: id{kind: api.KindDir, ino: ino, gen: firstGen, index: index}, body: body}, e
}

// piece is an inode's block.
func (n node) piece() (piece, api.Errno) {
	body, e := pack.Inode(n.Inode)
	return piece{id: id{kind: api.KindInode, ino: n.ino, gen: n.gen}, body: body}, e
}
