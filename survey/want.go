package survey

import (
	"cmp"
	"slices"

	"grapnel/api"
	"grapnel/chart"
	"grapnel/grid"
	"grapnel/pack"
	"grapnel/shelf"
)

// What a finding calls the grids.
const (
	foundBlocks = 1
	foundNodes  = 2
)

// wantAt is a block that must stand at an address.
func wantAt(at int, is id, body string) api.Want {
	return api.Want{Address: at, Kind: is.kind, Ino: is.ino, Gen: is.gen, Index: is.index, Body: body}
}

// isRead tells whether just that stands at an address.
func (j *judge) isRead(w api.Want) bool {
	r := j.evidence.Readings[w.Address]
	return r.Ok && idOf(r.Head) == id{kind: w.Kind, ino: w.Ino, gen: w.Gen, index: w.Index} && r.Body == w.Body
}

// grids is both grids, as they must be.
func (j *judge) grids() (blocks, nodes api.Want) {
	usedNodes := make([]bool, len(j.nodes))
	for i, n := range j.nodes {
		usedNodes[i] = n.Kind != api.Free
	}
	blocks = wantAt(j.layout.Blocks, id{kind: api.KindBlocks}, gridBody(j.had))
	nodes = wantAt(j.layout.Nodes, id{kind: api.KindInodes}, gridBody(usedNodes))
	return blocks, nodes
}

// gridBody is the body of a grid that tells what is used.
func gridBody(used []bool) string {
	// A grid has room for all addresses, and for all inodes.
	g, _ := grid.New(len(used))
	for i, is := range used {
		g.Put(i, is)
	}
	return g.Body()
}

// judgeGrids tells of the grids.
func (j *judge) judgeGrids() {
	blocks, nodes := j.grids()
	if !j.isRead(blocks) {
		j.find(api.FoundGrid, foundBlocks, 0, 0)
	}
	if !j.isRead(nodes) {
		j.find(api.FoundGrid, foundNodes, 0, 0)
	}
}

// wants is the blocks that are to be written, by rising addresses.
func (j *judge) wants() []api.Want {
	blocks, nodes := j.grids()
	all := []api.Want{blocks, nodes}
	for _, n := range j.nodes {
		all = append(all, j.blocksOf(n)...)
	}
	slices.SortFunc(all, func(a, b api.Want) int { return cmp.Compare(a.Address, b.Address) })
	var wants []api.Want
	for _, w := range all {
		if !j.isRead(w) || slices.Contains(j.evidence.Stale, w.Address) {
			wants = append(wants, w)
		}
	}
	return wants
}

// blocksOf is an inode's block, and all that it has.
func (j *judge) blocksOf(n *node) []api.Want {
	// All numbers of an inode and its tables have room: they are counts and addresses of the living part.
	body, _ := pack.Inode(n.Inode)
	l := []api.Want{wantAt(j.layout.Table+n.ino-1, n.block(api.KindInode, 0), body)}
	for table, at := range n.inner {
		l = append(l, tableAt(at, n.block(api.KindTable, table), n.row(table)))
	}
	if n.outer != 0 {
		l = append(l, tableAt(n.outer, n.block(api.KindTables, 0), n.outerRow()))
	}
	if n.Kind == api.Dir {
		return append(l, n.pagesMust()...)
	}
	for index, at := range n.pieces {
		l = append(l, wantAt(at, n.data(index), j.body(at)))
	}
	return l
}

func tableAt(at int, is id, row []int) api.Want {
	body, _ := chart.Body(row)
	return wantAt(at, is, body)
}

// pagesMust is the blocks of a directory's slots.
func (n *node) pagesMust() []api.Want {
	var l []api.Want
	for i, index := range n.pages {
		// A generation beyond its field's room has no bytes, as a head of it has none.
		body, _ := shelf.Body(n.slots[i*api.Slots : (i+1)*api.Slots])
		l = append(l, wantAt(n.pieces[index], n.data(index), body))
	}
	return l
}
