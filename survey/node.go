package survey

import (
	"slices"

	"grapnel/api"
	"grapnel/chart"
	"grapnel/pack"
)

// node is an inode as it must become, and what it has.
type node struct {
	ino, gen  int
	authentic bool
	api.Inode
	pieces map[int]int // where its blocks are, by their indices
	inner  map[int]int // where its table is (at 0), and where the tables of its tables are (from 1 on): by their heads' Index
	outer  int         // where its tables are; 0: nowhere
	pages  []int       // of a directory, the indices that it has
	slots  []api.Entry // sixteen for each of these
	names  int
	place  int // the directory that a directory stands in; 0: none
}

// block is which block of an inode one is.
func (n *node) block(kind, index int) id { return id{kind: kind, ino: n.ino, gen: n.gen, index: index} }

// data is the block of an index.
func (n *node) data(index int) id {
	if n.Kind == api.Dir {
		return n.block(api.KindDir, index)
	}
	return n.block(api.KindData, index)
}

// span is how many indices its size has.
func (n *node) span() int {
	// The size is known to be one that may be.
	count, _ := chart.Span(n.Size)
	return count
}

// isKept tells whether an inode is one of those that are always there.
func (n *node) isKept() bool { return n.ino == api.RootIno || n.ino == api.LostIno }

// firstIn is the first index that an inner table tells.
func firstIn(table int) int { return api.Direct + table*api.Fan }

// row is what an inner table must tell: of each of its indices where the block is.
func (n *node) row(table int) []int {
	l := make([]int, api.Fan)
	for i := range l {
		l[i] = n.pieces[firstIn(table)+i]
	}
	return l
}

// outerRow is what its tables must tell.
func (n *node) outerRow() []int {
	l := make([]int, api.Fan)
	for i := range l {
		l[i] = n.inner[1+i]
	}
	return l
}

// tellsNothing tells whether a table is as good as none.
func tellsNothing(row []int) bool {
	return !slices.ContainsFunc(row, func(at int) bool { return at != 0 })
}

// readNodes reads all inodes. One that is lost is told, and made anew.
func (j *judge) readNodes() {
	greatest := j.greatestGens()
	for i := range j.layout.Inodes {
		ino := i + 1
		n := &node{ino: ino, pieces: map[int]int{}, inner: map[int]int{}}
		r := j.evidence.Readings[j.layout.Table+i]
		n.Inode, n.authentic = j.inodeIn(r, ino)
		n.gen = r.Head.Gen
		if !n.authentic {
			j.find(api.FoundInode, ino, 0, 0)
			n.Inode, n.gen = j.anew(ino), greatest[ino]+1
		}
		if n.isKept() {
			n.place = api.RootIno
		}
		j.nodes = append(j.nodes, n)
	}
}

// greatestGens is, of each inode of which a block tells, the greatest generation that is told. Of the others it is 0, which is what a map answers of them.
func (j *judge) greatestGens() map[int]int {
	greatest := map[int]int{}
	for at := range j.layout.Live {
		r := j.evidence.Readings[at]
		if !r.Ok {
			continue
		}
		gen, told := greatest[r.Head.Ino]
		if !told || gen < r.Head.Gen {
			greatest[r.Head.Ino] = r.Head.Gen
		}
	}
	return greatest
}

// inodeIn is the inode that a reading is, if it is that one, and authentic.
func (j *judge) inodeIn(r api.Reading, ino int) (api.Inode, bool) {
	if !r.Ok || idOf(r.Head) != (id{kind: api.KindInode, ino: ino, gen: r.Head.Gen}) {
		return api.Inode{}, false
	}
	i, e := pack.InodeOf(r.Body)
	if e != api.OK || !j.maySay(i, ino) {
		return api.Inode{}, false
	}
	return i, true
}

// maySay tells whether an inode's kind and size may be.
func (j *judge) maySay(i api.Inode, ino int) bool {
	if i.Size > api.MaxSize {
		return false
	}
	if i.Kind == api.Dir && (i.Size%api.BodyBytes != 0 || i.Size > j.layout.Live*api.BodyBytes) {
		return false
	}
	switch ino {
	case api.RootIno:
		return i.Kind == api.Dir && i.Size > 0
	case api.LostIno:
		return i.Kind == api.Dir && i.Size == j.layout.LostBlocks*api.BodyBytes
	}
	return true
}

// anew is what an inode becomes that is lost.
func (j *judge) anew(ino int) api.Inode {
	switch ino {
	case api.RootIno:
		return api.Inode{Kind: api.Dir, Size: api.BodyBytes}
	case api.LostIno:
		return api.Inode{Kind: api.Dir, Size: j.layout.LostBlocks * api.BodyBytes}
	}
	return api.Inode{}
}

// node is an inode, if there is such a one.
func (j *judge) node(ino int) (*node, bool) {
	if ino < 1 || ino > len(j.nodes) {
		return nil, false
	}
	return j.nodes[ino-1], true
}

// settle makes links, parents and pointers what they must be.
func (j *judge) settle() {
	for _, n := range j.nodes {
		if n.Kind == api.Free {
			continue
		}
		links, parent := n.names, 0
		if n.Kind == api.Dir {
			links, parent = 1, n.place
		}
		if n.authentic && n.Links != links {
			j.find(api.FoundLinks, n.ino, n.Links, links)
		}
		if n.authentic && n.Parent != parent {
			j.find(api.FoundParent, n.ino, n.Parent, parent)
		}
		n.Links, n.Parent = links, parent
		j.point(n)
	}
}

// point makes an inode tell the pieces that it has, and lets tables go that tell nothing.
func (j *judge) point(n *node) {
	for i := range n.Direct {
		n.Direct[i] = n.pieces[i]
	}
	for table := range 1 + api.Fan {
		if at, ok := n.inner[table]; ok && tellsNothing(n.row(table)) {
			j.had[at] = false
			delete(n.inner, table)
		}
	}
	if n.outer != 0 && tellsNothing(n.outerRow()) {
		j.had[n.outer] = false
		n.outer = 0
	}
	n.Single, n.Double = n.inner[0], n.outer
}
