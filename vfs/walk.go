package vfs

import (
	"slices"

	"grapnel/api"
	"grapnel/path"
)

// route is a path that is gone along: the names from the root on, and how many other paths it was led to.
type route struct {
	names []string
	led   int
}

// place is where a path ends: a name in a directory, which may be there or not. The root has no name, and is its own directory.
type place struct {
	dir   node
	above []int // the inodes of the directory, and of all above it
	name  string
}

func (x place) isRoot() bool { return x.name == "" }

// walk goes along a path, up to its last name.
func (w *work) walk(s string) (place, *route, error) {
	names, e := path.Split(s)
	if e != api.OK {
		return place{}, nil, refused(s, e)
	}
	r := &route{names: names}
	x, err := w.along(r)
	return x, r, err
}

// along goes along a route from the root, again from there where it is led elsewhere.
func (w *work) along(r *route) (place, error) {
	for {
		x, led, err := w.pass(r)
		if err != nil || !led {
			return x, err
		}
	}
}

// pass goes along a route up to its last name, or to the first ahead of it that leads elsewhere: the route is another one then.
func (w *work) pass(r *route) (place, bool, error) {
	dir, err := w.root()
	if err != nil {
		return place{}, false, err
	}
	x := place{dir: dir, above: []int{dir.ino}}
	for i, name := range r.names {
		if x.dir.Kind != api.Dir {
			return place{}, false, refused(name, api.ErrDir)
		}
		if i == len(r.names)-1 {
			x.name = name
			break
		}
		n, err := w.child(x.dir, name)
		if err != nil {
			return place{}, false, err
		}
		if n.Kind == api.Sym {
			return place{}, true, w.lead(r, n, r.names[i+1:])
		}
		x.dir, x.above = n, append(x.above, n.ino)
	}
	return x, false, nil
}

// lead makes a route the one that an inode leads to, with the names that are left behind it.
func (w *work) lead(r *route, n node, left []string) error {
	if r.led == api.MaxFollow {
		return refused("a path", api.ErrTangle)
	}
	names, _, err := w.leadsTo(n)
	if err != nil {
		return err
	}
	r.names = slices.Concat(names, left)
	r.led++
	return nil
}

// child is what a name in a directory leads to.
func (w *work) child(dir node, name string) (node, error) {
	_, x, ok, err := w.find(dir, name)
	if err != nil {
		return node{}, err
	}
	if !ok {
		return node{}, refused(name, api.ErrNone)
	}
	return w.named(x)
}

// there is what stands at a place.
func (w *work) there(x place) (node, error) {
	if x.isRoot() {
		return x.dir, nil
	}
	return w.child(x.dir, x.name)
}

// at is what stands at a path, be it one that leads elsewhere.
func (w *work) at(s string) (place, node, error) {
	x, _, err := w.walk(s)
	if err != nil {
		return place{}, node{}, err
	}
	n, err := w.there(x)
	return x, n, err
}

// behind is what stands at a path, and where that leads elsewhere, what stands there.
func (w *work) behind(s string) (node, error) {
	x, r, err := w.walk(s)
	for err == nil {
		var n node
		n, err = w.there(x)
		if err != nil || n.Kind != api.Sym {
			return n, err
		}
		if err = w.lead(r, n, nil); err == nil {
			x, err = w.along(r)
		}
	}
	return node{}, err
}

// fresh is a place at which something new may be put.
func (w *work) fresh(s string) (place, error) {
	x, _, err := w.walk(s)
	if err != nil {
		return place{}, err
	}
	if x.isRoot() {
		return place{}, refused(s, api.ErrExist)
	}
	if x.dir.ino == api.LostIno {
		return place{}, refused(s, api.ErrBusy)
	}
	_, _, ok, err := w.find(x.dir, x.name)
	if err != nil {
		return place{}, err
	}
	if ok {
		return place{}, refused(s, api.ErrExist)
	}
	return x, nil
}
