package vfs

import (
	"strconv"

	"grapnel/api"
	"grapnel/pack"
	"grapnel/path"
)

// node is an inode, and which one it is.
type node struct {
	ino, gen int
	api.Inode
}

// nodeAt is where an inode stands.
func (f *FS) nodeAt(ino int) int { return f.layout.Table + ino - 1 }

// node is an inode as it stands, of whatever generation.
func (w *work) node(ino int) (node, error) {
	at := w.nodeAt(ino)
	x, ok := w.look(at)
	if !ok || ino > w.layout.Inodes || x.id != (id{kind: api.KindInode, ino: ino, gen: x.gen}) {
		return node{}, damaged(at)
	}
	i, e := pack.InodeOf(x.body)
	if e != api.OK || !hasForm(i) {
		return node{}, damaged(at)
	}
	return node{ino: ino, gen: x.gen, Inode: i}, nil
}

// hasForm tells whether an inode's size may be.
func hasForm(i api.Inode) bool {
	return i.Size <= api.MaxSize && (i.Kind != api.Dir || i.Size%api.BodyBytes == 0)
}

// root is the directory from which paths go out.
func (w *work) root() (node, error) {
	n, err := w.node(api.RootIno)
	if err == nil && n.Kind != api.Dir {
		return node{}, damaged(w.nodeAt(api.RootIno))
	}
	return n, err
}

// named is the inode that a name leads to. One that is free, or of another generation, is not what was named.
func (w *work) named(x api.Entry) (node, error) {
	n, err := w.node(x.Ino)
	if err != nil {
		return node{}, err
	}
	if n.Kind == api.Free || n.gen != x.Gen {
		return node{}, damaged(w.nodeAt(x.Ino))
	}
	return n, nil
}

// save lets an inode's block wait, if it was changed.
func (w *work) save(n node) error {
	x, e := n.piece()
	if e != api.OK {
		return refused("inode "+strconv.Itoa(n.ino), e)
	}
	w.put(w.nodeAt(n.ino), x)
	return nil
}

// takeNode is the least inode that is free, taken anew with one name.
func (w *work) takeNode(kind, parent int) (node, error) {
	i, ok := w.nodes.Next(0)
	if !ok {
		return node{}, refused("an inode", api.ErrInodes)
	}
	n, err := w.node(i + 1)
	if err != nil {
		return node{}, err
	}
	if n.Kind != api.Free {
		return node{}, damaged(w.nodeAt(n.ino))
	}
	w.nodes.Put(i, true)
	return node{ino: n.ino, gen: n.gen + 1, Inode: api.Inode{Kind: kind, Links: 1, Parent: parent}}, nil
}

// freeNode lets an inode go, with all its blocks.
func (w *work) freeNode(n node) error {
	if err := w.cut(&n, 0); err != nil {
		return err
	}
	w.nodes.Put(n.ino-1, false)
	return w.save(node{ino: n.ino, gen: n.gen})
}

// leadsTo is the path that an inode leads to, name by name, and as a text.
func (w *work) leadsTo(n node) ([]string, string, error) {
	to, err := w.bytes(n, 0, n.Size)
	if err != nil {
		return nil, "", err
	}
	names, e := path.Split(to)
	if e != api.OK {
		return nil, "", refused("inode "+strconv.Itoa(n.ino), api.ErrDamage)
	}
	return names, to, nil
}

// content is all bytes of what is no directory.
func (w *work) content(n node) (string, error) {
	if n.Kind == api.Sym {
		_, to, err := w.leadsTo(n)
		return to, err
	}
	return w.bytes(n, 0, n.Size)
}
