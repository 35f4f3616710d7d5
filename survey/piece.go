package survey

import (
	"grapnel/api"
	"grapnel/chart"
	"grapnel/path"
)

// What a finding calls an inode's tables. A table of the tables is called by what its head's Index is beyond the tables.
const (
	foundSingle = 1
	foundDouble = 2
)

// torn is an inner table that is lost: whose, which one, and where it stood.
type torn struct {
	node      *node
	table, at int
}

// takePieces finds what each inode has.
func (j *judge) takePieces() {
	for _, n := range j.nodes {
		if n.Kind == api.Free {
			continue
		}
		j.takeKept(n)
		j.follow(n, n.Direct[:], 0)
		j.followInner(n, 0, n.Single)
		j.followOuter(n)
	}
}

// keptAt is where the blocks stand that an inode always has, and how many they are.
func (j *judge) keptAt(n *node) (int, int) {
	switch n.ino {
	case api.RootIno:
		return j.layout.Root, 1
	case api.LostIno:
		return j.layout.Lost, j.layout.LostBlocks
	}
	return 0, 0
}

// takeKept gives an inode the blocks that it always has, whatever is said. Of one that is lost all is lost that stood there.
func (j *judge) takeKept(n *node) {
	from, count := j.keptAt(n)
	for index := range count {
		n.pieces[index] = from + index
		if n.authentic && !j.isBlock(from+index, n.data(index)) {
			j.find(api.FoundBlock, n.ino, index, 0)
		}
	}
}

// follow takes the pieces to which pointers lead, the first of which is that of an index.
func (j *judge) follow(n *node, pointers []int, first int) {
	for i := range min(len(pointers), n.span()-first) {
		index, at := first+i, pointers[i]
		if _, kept := n.pieces[index]; kept || at == 0 {
			continue
		}
		if !j.isPiece(at, n.data(index)) {
			j.find(api.FoundBlock, n.ino, index, 0)
			continue
		}
		j.had[at] = true
		n.pieces[index] = at
	}
}

// numbers is what a table tells.
func (j *judge) numbers(at int) []int {
	// Evidence that nobody gathered may have bodies of any length: these tell nothing.
	l, _ := chart.Table(j.evidence.Readings[at].Body)
	return l
}

// followInner takes an inner table, and what it tells.
func (j *judge) followInner(n *node, table, at int) {
	if at == 0 || firstIn(table) >= n.span() {
		return
	}
	if !j.isPiece(at, n.block(api.KindTable, table)) {
		called := foundSingle
		if table > 0 {
			called = foundDouble + table
		}
		j.find(api.FoundTable, n.ino, called, 0)
		j.torn = append(j.torn, torn{node: n, table: table, at: at})
		return
	}
	j.had[at] = true
	n.inner[table] = at
	j.follow(n, j.numbers(at), firstIn(table))
}

// followOuter takes an inode's tables, and what they tell.
func (j *judge) followOuter(n *node) {
	if n.Double == 0 || firstIn(1) >= n.span() {
		return
	}
	if !j.isPiece(n.Double, n.block(api.KindTables, 0)) {
		j.find(api.FoundTable, n.ino, foundDouble, 0)
		return
	}
	j.had[n.Double] = true
	n.outer = n.Double
	for i, at := range j.numbers(n.Double) {
		j.followInner(n, 1+i, at)
	}
}

// takeTorn makes torn tables anew where they stood, of the pieces that they must have told.
func (j *judge) takeTorn() {
	if len(j.torn) == 0 {
		return
	}
	loose := j.looseBlocks()
	for _, t := range j.torn {
		if !j.isLoose(t.at) {
			continue
		}
		// It is had ahead of its pieces, so that it is none of them.
		j.had[t.at] = true
		if j.match(t, loose) {
			t.node.inner[t.table] = t.at
		} else {
			j.had[t.at] = false
		}
	}
}

// looseBlocks is where those blocks stand, rising, that nobody has.
func (j *judge) looseBlocks() map[id][]int {
	loose := map[id][]int{}
	for at := range j.layout.Live {
		if r := j.evidence.Readings[at]; r.Ok && j.isPiece(at, idOf(r.Head)) {
			loose[idOf(r.Head)] = append(loose[idOf(r.Head)], at)
		}
	}
	return loose
}

// match takes the pieces for a torn table, and tells whether there is one.
func (j *judge) match(t torn, loose map[id][]int) bool {
	found, first := false, firstIn(t.table)
	for i := range min(api.Fan, t.node.span()-first) {
		index := first + i
		at, ok := j.latest(loose[t.node.data(index)])
		if !ok {
			continue
		}
		j.had[at] = true
		t.node.pieces[index] = at
		j.find(api.FoundMatch, t.node.ino, index, at)
		found = true
	}
	return found
}

// latest is the first address of the greatest Version, of those that nobody has yet.
func (j *judge) latest(l []int) (int, bool) {
	best, found := 0, false
	for _, at := range l {
		if j.isLoose(at) && (!found || j.version(at) > j.version(best)) {
			best, found = at, true
		}
	}
	return best, found
}

func (j *judge) version(at int) int { return j.evidence.Readings[at].Head.Version }

// dropPaths frees inodes that led to other paths, which are lost.
func (j *judge) dropPaths() {
	for _, n := range j.nodes {
		if n.Kind != api.Sym || j.leadsElsewhere(n) {
			continue
		}
		j.find(api.FoundPath, n.ino, 0, 0)
		j.drop(n)
	}
}

// leadsElsewhere tells whether an inode has the path that it led to.
func (j *judge) leadsElsewhere(n *node) bool {
	at, ok := n.pieces[0]
	if !ok {
		return false
	}
	body := j.body(at)
	if n.Size > len(body) {
		return false
	}
	// A size that is too great for a path is found here, too.
	_, e := path.Split(body[:n.Size])
	return e == api.OK
}

// drop frees an inode, and lets all go that it has.
func (j *judge) drop(n *node) {
	for _, at := range n.pieces {
		j.had[at] = false
	}
	for _, at := range n.inner {
		j.had[at] = false
	}
	if n.outer != 0 {
		j.had[n.outer] = false
	}
	clear(n.pieces)
	clear(n.inner)
	n.Inode, n.outer = api.Inode{}, 0
}
