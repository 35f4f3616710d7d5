package vfs

import (
	"slices"

	"grapnel/api"
	"grapnel/pack"
	"grapnel/path"
)

// entry is the entry by which a name leads to an inode.
func (n node) entry(name string) api.Entry { return api.Entry{Name: name, Ino: n.ino, Gen: n.gen} }

// isKept tells whether an inode is one that stays where it is.
func (n node) isKept() bool { return n.ino == api.RootIno || n.ino == api.LostIno }

// Mkdir makes a directory.
func (f *FS) Mkdir(s string) api.Errno {
	return f.do(func(w *work) error {
		x, err := w.fresh(s)
		if err != nil {
			return err
		}
		return w.bring(x, api.Dir, x.dir.ino)
	})
}

// Create makes an empty file.
func (f *FS) Create(s string) api.Errno {
	return f.do(func(w *work) error {
		x, err := w.fresh(s)
		if err != nil {
			return err
		}
		return w.bring(x, api.File, 0)
	})
}

// bring puts something new and empty at a place.
func (w *work) bring(x place, kind, parent int) error {
	n, err := w.takeNode(kind, parent)
	if err != nil {
		return err
	}
	if err := w.save(n); err != nil {
		return err
	}
	return w.addName(x.dir, n.entry(x.name))
}

// Symlink makes a path that leads to another one.
func (f *FS) Symlink(to, s string) api.Errno {
	return f.do(func(w *work) error {
		if _, e := path.Split(to); e != api.OK {
			return refused(to, e)
		}
		x, err := w.fresh(s)
		if err != nil {
			return err
		}
		n, err := w.takeNode(api.Sym, 0)
		if err != nil {
			return err
		}
		return w.bringPath(x, n, to)
	})
}

// bringPath puts an inode at a place that leads to a path. The path has room in the inode's first block.
func (w *work) bringPath(x place, n node, to string) error {
	body, e := pack.Pad(to, api.BodyBytes)
	if e != api.OK {
		return refused(to, e)
	}
	at, err := w.takeBlock()
	if err != nil {
		return err
	}
	n.Size, n.Direct[0] = len(to), at
	w.put(at, piece{id: n.data(0), body: body})
	if err := w.save(n); err != nil {
		return err
	}
	return w.addName(x.dir, n.entry(x.name))
}

// Remove takes away a name, or an empty directory.
func (f *FS) Remove(s string) api.Errno {
	return f.do(func(w *work) error {
		x, n, err := w.at(s)
		if err != nil {
			return err
		}
		if n.isKept() {
			return refused(s, api.ErrBusy)
		}
		last := n.Links <= 1
		if err := w.mayGo(n, last); err != nil {
			return err
		}
		if err := w.dropName(x); err != nil {
			return err
		}
		if last {
			return w.freeNode(n)
		}
		n.Links--
		return w.save(n)
	})
}

// mayGo tells what speaks against it that one of an inode's names goes, which may be the last.
func (w *work) mayGo(n node, last bool) error {
	if n.Kind != api.Dir {
		if last && w.isOpen(n) {
			return refused("a name", api.ErrBusy)
		}
		return nil
	}
	empty, err := w.isEmpty(n)
	if err == nil && !empty {
		return refused("a directory", api.ErrEmpty)
	}
	return err
}

// dropName frees the slot of a name that is there.
func (w *work) dropName(x place) error {
	s, _, _, err := w.find(x.dir, x.name)
	if err != nil {
		return err
	}
	return w.fillSlot(&x.dir, s, api.Entry{})
}

// Link gives a file another name.
func (f *FS) Link(from, to string) api.Errno {
	return f.do(func(w *work) error {
		_, n, err := w.at(from)
		if err != nil {
			return err
		}
		if n.Kind != api.File {
			return refused(from, api.ErrFile)
		}
		x, err := w.fresh(to)
		if err != nil {
			return err
		}
		if n.Links >= api.MaxLinks {
			return refused(from, api.ErrLinks)
		}
		n.Links++
		if err := w.save(n); err != nil {
			return err
		}
		return w.addName(x.dir, n.entry(x.name))
	})
}

// Rename moves a name.
func (f *FS) Rename(from, to string) api.Errno {
	return f.do(func(w *work) error {
		was, n, err := w.at(from)
		if err != nil {
			return err
		}
		if n.isKept() {
			return refused(from, api.ErrBusy)
		}
		x, err := w.fresh(to)
		if err != nil {
			return err
		}
		// Nothing but directories stands above it.
		if slices.Contains(x.above, n.ino) {
			return refused(to, api.ErrLoop)
		}
		if err := w.dropName(was); err != nil {
			return err
		}
		if n.Kind == api.Dir {
			n.Parent = x.dir.ino
			if err := w.save(n); err != nil {
				return err
			}
		}
		return w.addName(x.dir, n.entry(x.name))
	})
}
