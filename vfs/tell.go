package vfs

import (
	"slices"

	"grapnel/api"
)

const slash = "/"

// stat is what is told of an inode.
func (n node) stat() api.Stat {
	return api.Stat{Ino: n.ino, Gen: n.gen, Kind: n.Kind, Links: n.Links, Size: n.Size}
}

// Readlink tells the path that another one leads to.
func (f *FS) Readlink(s string) (string, api.Errno) {
	var to string
	e := f.do(func(w *work) error {
		_, n, err := w.at(s)
		if err != nil {
			return err
		}
		if n.Kind != api.Sym {
			return refused(s, api.ErrSym)
		}
		_, to, err = w.leadsTo(n)
		return err
	})
	return to, e
}

// Stat tells of a file or directory, or of a path that leads elsewhere.
func (f *FS) Stat(s string) (api.Stat, api.Errno) {
	var stat api.Stat
	e := f.do(func(w *work) error {
		_, n, err := w.at(s)
		if err != nil {
			return err
		}
		stat = n.stat()
		return nil
	})
	return stat, e
}

// List is a directory's names, as they stand.
func (f *FS) List(s string) ([]api.Entry, api.Errno) {
	var l []api.Entry
	e := f.do(func(w *work) error {
		n, err := w.behind(s)
		if err != nil {
			return err
		}
		if n.Kind != api.Dir {
			return refused(s, api.ErrDir)
		}
		l, err = w.entries(n)
		return err
	})
	if e != api.OK {
		return nil, e
	}
	return l, api.OK
}

// Dump is all files and directories, each directory ahead of what is in it, names as they stand.
func (f *FS) Dump() ([]api.Node, api.Errno) {
	var d dump
	e := f.do(func(w *work) error {
		root, err := w.root()
		if err != nil {
			return err
		}
		return d.add(w, slash, root)
	})
	if e != api.OK {
		return nil, e
	}
	return d.nodes, api.OK
}

// dump is what a whole tree was found to be, and of which directories.
type dump struct {
	nodes []api.Node
	dirs  []int
}

// add adds what stands at a path, with all that is in it. A directory that is come upon again is in none: going on would not end.
func (d *dump) add(w *work, at string, n node) error {
	if n.Kind != api.Dir {
		data, err := w.content(n)
		d.nodes = append(d.nodes, api.Node{Path: at, Stat: n.stat(), Data: data})
		return err
	}
	if slices.Contains(d.dirs, n.ino) {
		return damaged(w.nodeAt(n.ino))
	}
	d.dirs = append(d.dirs, n.ino)
	d.nodes = append(d.nodes, api.Node{Path: at, Stat: n.stat()})
	l, err := w.entries(n)
	if err != nil {
		return err
	}
	for _, x := range l {
		child, err := w.named(x)
		if err != nil {
			return err
		}
		if err := d.add(w, below(at, x.Name), child); err != nil {
			return err
		}
	}
	return nil
}

// below is the path of a name in a directory. It may be longer than one that a call takes: directories move with all that is in them.
func below(dir, name string) string {
	if dir == slash {
		return dir + name
	}
	return dir + slash + name
}
