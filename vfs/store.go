package vfs

import (
	"maps"
	"slices"

	"grapnel/api"
	"grapnel/block"
	"grapnel/grid"
	"grapnel/journal"
	"grapnel/pack"
)

// id is what a block of the file system is, beside where it stands.
type id struct{ kind, ino, gen, index int }

// piece is a block of the file system ahead of its sealing.
type piece struct {
	id
	body string
}

// head is a piece's head, at an address.
func (x piece) head(volume, at, version, salt int) api.Head {
	return api.Head{Volume: volume, Address: at, Kind: x.kind, Ino: x.ino, Gen: x.gen, Index: x.index, Version: version, Salt: salt}
}

// store is what stands in memory alone: what is used, and by their addresses the blocks that wait for a commit.
type store struct {
	blocks, nodes *grid.Grid
	waits         map[int]piece
}

func newStore(blocks, nodes *grid.Grid) store {
	return store{blocks: blocks, nodes: nodes, waits: map[int]piece{}}
}

// work is what a call does. It is done in a store of its own, which hides the file system's: that takes it over as a whole, or not at all.
type work struct {
	*FS
	store
	freed []int // blocks that nobody has any more: if they wait, it is in vain
}

// do does a call's work, and takes it over, if nothing speaks against it.
func (f *FS) do(call func(w *work) error) api.Errno {
	if e := f.ready(); e != api.OK {
		return e
	}
	w := &work{FS: f, store: newStore(f.blocks.Copy(), f.nodes.Copy())}
	if err := call(w); err != nil {
		return told(err)
	}
	w.putGrids()
	return f.take(w)
}

// take takes over what was done. No more may wait than one commit can write.
func (f *FS) take(w *work) api.Errno {
	if w.wouldWait() > api.Records {
		if e := f.commit(); e != api.OK {
			return e
		}
	}
	for _, at := range w.freed {
		delete(f.waits, at)
	}
	for at, x := range w.waits {
		f.waits[at] = x
	}
	f.blocks, f.nodes = w.blocks, w.nodes
	return api.OK
}

// wouldWait is how many blocks wait behind this work.
func (w *work) wouldWait() int {
	count := len(w.waits)
	for at := range w.FS.waits {
		if _, again := w.waits[at]; !again && !slices.Contains(w.freed, at) {
			count++
		}
	}
	return count
}

// commit makes all that waits last.
func (f *FS) commit() api.Errno {
	if len(f.waits) == 0 {
		return api.OK
	}
	next := f.super
	next.Epoch++
	next.Next += len(f.waits)
	// Numbers that have no room are told ahead of all that is sealed, as long as nothing is changed.
	if _, e := pack.Super(next); e != api.OK {
		return e
	}
	ws, e := f.sealed()
	if e != api.OK {
		return e
	}
	next.Root = f.rootWith(ws)
	if e := journal.Commit(f.device, f.vault, ws, next); e != api.OK {
		// Which of both states the device has is for the next mount to find out.
		f.mounted = false
		return e
	}
	f.super = next
	clear(f.waits)
	return api.OK
}

// sealed is the blocks that wait, with the next Versions.
func (f *FS) sealed() ([]api.Write, api.Errno) {
	var ws []api.Write
	for i, at := range slices.Sorted(maps.Keys(f.waits)) {
		x := f.waits[at]
		raw, e := block.Seal(f.vault, x.head(f.super.Volume, at, f.super.Next+i, f.salt), x.body)
		if e != api.OK {
			return nil, e
		}
		ws = append(ws, api.Write{Address: at, Raw: raw})
	}
	return ws, api.OK
}

// rootWith is the root with these blocks in their places, and nothing where nothing is used.
func (f *FS) rootWith(ws []api.Write) string {
	for at := range f.tags {
		if !f.blocks.Has(at) {
			f.setTag(at, zeros(api.TagBytes))
		}
	}
	for _, w := range ws {
		f.setTag(w.Address, block.Tag(w.Raw))
	}
	return f.tree.Root()
}

func (f *FS) setTag(at int, tag string) {
	if f.tags[at] != tag {
		f.tags[at] = tag
		f.tree.Set(at, tag)
	}
}

// look is the piece at an address behind all that was done: by this work, or waiting, or as the device has it.
func (w *work) look(at int) (piece, bool) {
	if x, ok := w.waits[at]; ok {
		return x, true
	}
	if x, ok := w.FS.waits[at]; ok {
		return x, true
	}
	return w.held(at)
}

// held is the piece that the device has at an address. It counts only if the root is over its tag: else it is one that was there at another time.
func (f *FS) held(at int) (piece, bool) {
	raw, mask, e := block.Get(f.device, at)
	if e != api.OK || mask != 0 || at >= len(f.tags) || block.Tag(raw) != f.tags[at] {
		return piece{}, false
	}
	r := block.Told(f.vault, raw, at)
	return piece{id: id{kind: r.Head.Kind, ino: r.Head.Ino, gen: r.Head.Gen, index: r.Head.Index}, body: r.Body}, r.Ok
}

// read is the body of the block that must be at an address.
func (w *work) read(at int, is id) (string, error) {
	x, ok := w.look(at)
	if !ok || x.id != is {
		return "", damaged(at)
	}
	return x.body, nil
}

// put lets a block wait, if it is another one than stands there.
func (w *work) put(at int, x piece) {
	if was, ok := w.look(at); ok && was == x {
		return
	}
	w.waits[at] = x
}

// putGrids lets the grids wait that this work changed.
func (w *work) putGrids() {
	if w.blocks.Body() != w.FS.blocks.Body() {
		w.put(w.layout.Blocks, piece{id: id{kind: api.KindBlocks}, body: w.blocks.Body()})
	}
	if w.nodes.Body() != w.FS.nodes.Body() {
		w.put(w.layout.Nodes, piece{id: id{kind: api.KindInodes}, body: w.nodes.Body()})
	}
}

// takeBlock is a block that nobody has, taken now.
func (w *work) takeBlock() (int, error) {
	l, e := w.blocks.Take(1, w.layout.Data)
	if e != api.OK {
		return 0, refused("a block", api.ErrSpace)
	}
	return l[0], nil
}

// freeBlock lets a block go. One that can't be had is no file's, whatever tells so.
func (w *work) freeBlock(at int) error {
	if at < w.layout.Data || !w.blocks.Has(at) {
		return damaged(at)
	}
	w.blocks.Put(at, false)
	delete(w.waits, at)
	w.freed = append(w.freed, at)
	return nil
}
