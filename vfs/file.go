package vfs

import (
	"grapnel/api"
	"grapnel/chart"
)

// handle is what a descriptor stands for; of the inode 0: nothing.
type handle struct{ ino, gen int }

// isOpen tells whether a descriptor stands for an inode.
func (f *FS) isOpen(n node) bool {
	for _, h := range f.open {
		if h == (handle{ino: n.ino, gen: n.gen}) {
			return true
		}
	}
	return false
}

// Open opens a file: its descriptor.
func (f *FS) Open(s string) (int, api.Errno) {
	fd := 0
	e := f.do(func(w *work) error {
		n, err := w.behind(s)
		if err != nil {
			return err
		}
		if n.Kind == api.Dir {
			return refused(s, api.ErrFile)
		}
		for fd < len(f.open) && f.open[fd] != (handle{}) {
			fd++
		}
		if fd == len(f.open) {
			return refused(s, api.ErrFd)
		}
		f.open[fd] = handle{ino: n.ino, gen: n.gen}
		return nil
	})
	if e != api.OK {
		return 0, e
	}
	return fd, api.OK
}

// Close closes a descriptor.
func (f *FS) Close(fd int) api.Errno {
	return f.do(func(w *work) error {
		if !f.has(fd) {
			return refused("a descriptor", api.ErrFd)
		}
		f.open[fd] = handle{}
		return nil
	})
}

// has tells whether a descriptor is open.
func (f *FS) has(fd int) bool {
	return fd >= 0 && fd < len(f.open) && f.open[fd] != (handle{})
}

// opened is the file of a descriptor.
func (w *work) opened(fd int) (node, error) {
	h := w.open[fd]
	return w.named(api.Entry{Ino: h.ino, Gen: h.gen})
}

// Read tells up to n bytes from a place on.
func (f *FS) Read(fd, at, n int) (string, api.Errno) {
	var s string
	e := f.do(func(w *work) error {
		switch {
		case !w.has(fd):
			return refused("a descriptor", api.ErrFd)
		case at < 0 || at > api.MaxSize || n < 0 || n > api.MaxWrite:
			return refused("a place", api.ErrRange)
		}
		file, err := w.opened(fd)
		if err != nil {
			return err
		}
		s, err = w.bytes(file, at, min(at+n, file.Size))
		return err
	})
	return s, e
}

// bytes is a file's bytes from a place up to another one, which is not behind its end.
func (w *work) bytes(n node, at, to int) (string, error) {
	if at >= to {
		return "", nil
	}
	b := make([]byte, to-at)
	for x, err := range w.spread(n, at/api.BodyBytes, span(to)) {
		if err != nil {
			return "", err
		}
		if x.at == 0 {
			continue
		}
		body, err := w.read(x.at, n.data(x.index))
		if err != nil {
			return "", err
		}
		from, end := part(x.index, at, to)
		start := x.index * api.BodyBytes
		copy(b[start+from-at:], body[from:end])
	}
	return string(b), nil
}

// part is which bytes of an index's block lie between two places of the file.
func part(index, at, to int) (int, int) {
	start := index * api.BodyBytes
	return max(at-start, 0), min(to-start, api.BodyBytes)
}

// span is how many indices a size has that may be.
func span(size int) int {
	n, _ := chart.Span(size)
	return n
}

// Write lays bytes at a place.
func (f *FS) Write(fd, at int, s string) api.Errno {
	return f.do(func(w *work) error {
		switch {
		case !w.has(fd):
			return refused("a descriptor", api.ErrFd)
		case len(s) > api.MaxWrite:
			return refused("bytes", api.ErrLong)
		case at < 0 || at > api.MaxSize-len(s):
			return refused("a place", api.ErrRange)
		case s == "":
			return nil
		}
		n, err := w.opened(fd)
		if err != nil {
			return err
		}
		// All are sought ahead of the first that is laid, since they may be told in tables that are not there yet.
		l, err := w.spots(n, at/api.BodyBytes, span(at+len(s)))
		if err != nil {
			return err
		}
		for _, x := range l {
			if err := w.lay(&n, x, at, s); err != nil {
				return err
			}
		}
		n.Size = max(n.Size, at+len(s))
		return w.save(n)
	})
}

// lay lays that part of some bytes which falls into an index's block, and takes the block, if there is none.
func (w *work) lay(n *node, x spot, at int, s string) error {
	from, end := part(x.index, at, at+len(s))
	body := make([]byte, api.BodyBytes)
	switch {
	case x.at == 0:
		taken, err := w.takeBlock()
		if err != nil {
			return err
		}
		x.at = taken
		if err := w.point(n, x); err != nil {
			return err
		}
	case from > 0 || end < api.BodyBytes:
		// A block that is laid over whole is not needed.
		was, err := w.read(x.at, n.data(x.index))
		if err != nil {
			return err
		}
		copy(body, was)
	}
	copy(body[from:end], s[x.index*api.BodyBytes+from-at:])
	w.put(x.at, piece{id: n.data(x.index), body: string(body)})
	return nil
}

// Trunc makes a file as long as is said.
func (f *FS) Trunc(fd, size int) api.Errno {
	return f.do(func(w *work) error {
		switch {
		case !w.has(fd):
			return refused("a descriptor", api.ErrFd)
		case size < 0 || size > api.MaxSize:
			return refused("a size", api.ErrRange)
		}
		n, err := w.opened(fd)
		if err != nil {
			return err
		}
		if size < n.Size {
			if err := w.shorten(&n, size); err != nil {
				return err
			}
		}
		n.Size = size
		return w.save(n)
	})
}

// shorten lets the indices beyond a size go, and makes what is behind it in its last block 0.
func (w *work) shorten(n *node, size int) error {
	if err := w.cut(n, span(size)); err != nil {
		return err
	}
	rest := size % api.BodyBytes
	if rest == 0 {
		return nil
	}
	l, err := w.spots(*n, size/api.BodyBytes, span(size))
	if err != nil {
		return err
	}
	for _, x := range l {
		if x.at == 0 {
			continue
		}
		body, err := w.read(x.at, n.data(x.index))
		if err != nil {
			return err
		}
		w.put(x.at, piece{id: n.data(x.index), body: body[:rest] + zeros(api.BodyBytes-rest)})
	}
	return nil
}
