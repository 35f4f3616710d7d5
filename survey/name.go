package survey

import (
	"strconv"

	"grapnel/api"
	"grapnel/shelf"
)

// lostName is what lost+found is called in the root.
const lostName = "lost+found"

// readSlots reads the slots of all directories. Of an index that one does not have all are free, and stay so: they are left out.
func (j *judge) readSlots() {
	for _, n := range j.nodes {
		if n.Kind != api.Dir {
			continue
		}
		for index := range n.span() {
			if at, ok := n.pieces[index]; ok {
				n.pages = append(n.pages, index)
				n.slots = append(n.slots, j.page(n, index, at)...)
			}
		}
	}
}

// page is the slots of a directory's block; free ones, if what stands there is none.
func (j *judge) page(n *node, index, at int) []api.Entry {
	if j.isBlock(at, n.data(index)) {
		if l, e := shelf.Page(j.body(at)); e == api.OK {
			return l
		}
	}
	return make([]api.Entry, api.Slots)
}

// slotOf is which slot of a directory one is of those that were read.
func (n *node) slotOf(i int) int { return n.pages[i/api.Slots]*api.Slots + i%api.Slots }

// followNames goes through all names, from the root on.
func (j *judge) followNames() {
	root, lost := j.nodes[api.RootIno-1], j.nodes[api.LostIno-1]
	must := lost.entry(lostName)
	if was := root.slots[0]; was != must && was != (api.Entry{}) {
		j.find(api.FoundEntry, root.ino, 0, 0)
	}
	root.slots[0] = must
	j.followRow(root, lost)
}

// entry is the entry by which a name leads to an inode.
func (n *node) entry(name string) api.Entry { return api.Entry{Name: name, Ino: n.ino, Gen: n.gen} }

// followRow goes through directories that wait in a row, and those that they name.
func (j *judge) followRow(row ...*node) {
	for len(row) > 0 {
		dir := row[0]
		row = append(row[1:], j.followSlots(dir)...)
	}
}

// followSlots goes through a directory's slots, frees those that may not be, and tells which directories have their place there.
func (j *judge) followSlots(dir *node) []*node {
	var named []*node
	right := shelf.Right(dir.slots)
	for i, x := range dir.slots {
		if x == (api.Entry{}) || dir.ino == api.RootIno && i == 0 {
			continue
		}
		n, ok := j.leadsTo(x)
		// The root and lost+found have a place from the beginning on.
		if !right[i] || !ok || n.place != 0 {
			j.find(api.FoundEntry, dir.ino, dir.slotOf(i), 0)
			dir.slots[i] = api.Entry{}
			continue
		}
		n.names++
		if n.Kind == api.Dir {
			n.place = dir.ino
			named = append(named, n)
		}
	}
	return named
}

// leadsTo is the inode that a slot leads to. One that is free, or of another generation, is not what was named.
func (j *judge) leadsTo(x api.Entry) (*node, bool) {
	n, ok := j.node(x.Ino)
	if !ok || n.Kind == api.Free || n.gen != x.Gen {
		return nil, false
	}
	return n, true
}

// adoptOrphans gives all a name that have none: first directories, since they may name others.
func (j *judge) adoptOrphans() {
	for n, ok := j.orphan(); ok; n, ok = j.orphan() {
		j.adopt(n)
		j.followRow(n)
	}
	for _, n := range j.nodes {
		if n.Kind != api.Free && n.Kind != api.Dir && n.names == 0 {
			j.adopt(n)
		}
	}
}

// orphan is the directory without a place that is to have one next: the least one to which no other one leads; the least, if they lead in rings.
func (j *judge) orphan() (*node, bool) {
	orphans := j.placeless()
	led := map[int]int{}
	for _, dir := range orphans {
		for _, x := range dir.slots {
			if n, ok := j.leadsTo(x); ok && n != dir {
				led[n.ino]++
			}
		}
	}
	for _, n := range orphans {
		if led[n.ino] == 0 {
			return n, true
		}
	}
	if len(orphans) == 0 {
		return nil, false
	}
	return orphans[0], true
}

// placeless is the directories without a place, rising.
func (j *judge) placeless() []*node {
	var l []*node
	for _, n := range j.nodes {
		if n.Kind == api.Dir && n.place == 0 {
			l = append(l, n)
		}
	}
	return l
}

// adopt puts an inode into lost+found, as long as that has room. It counts as named in any case, so that there is an end of orphans.
func (j *judge) adopt(n *node) {
	j.find(api.FoundOrphan, n.ino, 0, 0)
	lost := j.nodes[api.LostIno-1]
	if i := shelf.Spare(lost.slots); i < len(lost.slots) {
		lost.slots[i] = n.entry(strconv.Itoa(n.ino))
	}
	n.names++
	if n.Kind == api.Dir {
		n.place = lost.ino
	}
}
