package vfs_test

import (
	"maps"
	"slices"
	"strings"

	"grapnel/api"
)

// A plain tree as the chapter's words say it: what every answer of a file system is held against. Of the program's own packages it makes use of api alone.

const (
	maxSize  = 5675264
	pageSize = 448
)

// thing is what an inode is: of a directory its slots, of all else the bytes of the indices that it has.
type thing struct {
	kind, gen, links, size, parent int
	slots                          []api.Entry
	pieces                         map[int]string
}

// plain is a tree, its free inodes, and what is open.
type plain struct {
	live   int
	things []thing // by inodes; 0 is none
	open   [16]int
}

// newPlain is an empty file system.
func newPlain(live int) *plain {
	x := &plain{live: live, things: make([]thing, live/8+1)}
	lost := (live/8 + 15) / 16
	x.things[1] = thing{kind: 2, gen: 1, links: 1, size: pageSize, parent: 1, slots: make([]api.Entry, 16)}
	x.things[2] = thing{kind: 2, gen: 1, links: 1, size: lost * pageSize, parent: 1, slots: make([]api.Entry, 16*lost)}
	x.things[1].slots[0] = api.Entry{Name: "lost+found", Ino: 2, Gen: 1}
	return x
}

func (x *plain) copy() *plain {
	y := *x
	y.things = slices.Clone(x.things)
	for i := range y.things {
		y.things[i].slots = slices.Clone(x.things[i].slots)
		y.things[i].pieces = maps.Clone(x.things[i].pieces)
	}
	return &y
}

// mounted is the tree behind another mount: nothing is open.
func (x *plain) mounted() *plain {
	y := x.copy()
	y.open = [16]int{}
	return y
}

// blocksOf is how many blocks a file has that has these indices.
func blocksOf(indices []int) int {
	tables := map[int]bool{}
	for _, i := range indices {
		if i >= 12 {
			tables[(i-12)/112] = true
		}
		if i >= 124 {
			tables[-1] = true
		}
	}
	return len(indices) + len(tables)
}

func (t thing) indices() []int {
	if t.kind == 2 {
		return upTo(0, len(t.slots)/16)
	}
	return slices.Sorted(maps.Keys(t.pieces))
}

// Room is all blocks but those that are always used, and those that somebody has beyond these.
func (x *plain) Room() int {
	room := x.live - dataOf(x.live) + 1 + len(x.things[2].slots)/16
	for _, t := range x.things {
		room -= blocksOf(t.indices())
	}
	return room
}

// names is the names of a path.
func names(s string) ([]string, api.Errno) {
	if len(s) > 255 {
		return nil, api.ErrLong
	}
	if s == "" || s[0] != '/' {
		return nil, api.ErrPath
	}
	if s == "/" {
		return nil, api.OK
	}
	l := strings.Split(s[1:], "/")
	for _, name := range l {
		if len(name) > 19 {
			return nil, api.ErrLong
		}
		if name == "" || name == "." || name == ".." || strings.ContainsFunc(name, func(r rune) bool { return r < 33 || r > 126 }) {
			return nil, api.ErrPath
		}
	}
	return l, api.OK
}

// slot is where a name stands in a directory; -1: nowhere.
func (x *plain) slot(dir int, name string) int {
	return slices.IndexFunc(x.things[dir].slots, func(y api.Entry) bool { return y.Name == name })
}

// at is a path's directory and last name, the directories above that one, and how many paths it was led to. Where follow says so, the last name is followed, too.
func (x *plain) at(s string, follow bool) (dir int, name string, above []int, e api.Errno) {
	left, e := names(s)
	if e != api.OK {
		return 0, "", nil, e
	}
	led := 0
again:
	dir, above = 1, []int{1}
	for i, name := range left {
		if x.things[dir].kind != 2 {
			return 0, "", nil, api.ErrDir
		}
		last := i == len(left)-1
		if last && !follow {
			return dir, name, above, api.OK
		}
		k := x.slot(dir, name)
		if k < 0 && last {
			return dir, name, above, api.OK
		}
		if k < 0 {
			return 0, "", nil, api.ErrNone
		}
		to := x.things[dir].slots[k].Ino
		if x.things[to].kind == 3 {
			if led == 8 {
				return 0, "", nil, api.ErrTangle
			}
			led++
			more, _ := names(x.text(to))
			left = append(more, left[i+1:]...)
			goto again
		}
		if last {
			return dir, name, above, api.OK
		}
		dir, above = to, append(above, to)
	}
	return 1, "", above, api.OK
}

// there is the inode at a path.
func (x *plain) there(s string, follow bool) (int, api.Errno) {
	dir, name, _, e := x.at(s, follow)
	if e != api.OK {
		return 0, e
	}
	if name == "" {
		return 1, api.OK
	}
	k := x.slot(dir, name)
	if k < 0 {
		return 0, api.ErrNone
	}
	return x.things[dir].slots[k].Ino, api.OK
}

// fresh is where something new may be put.
func (x *plain) fresh(s string) (dir int, name string, above []int, e api.Errno) {
	dir, name, above, e = x.at(s, false)
	switch {
	case e != api.OK:
	case name == "":
		e = api.ErrExist
	case dir == 2:
		e = api.ErrBusy
	case x.slot(dir, name) >= 0:
		e = api.ErrExist
	}
	return dir, name, above, e
}

// grow is how many blocks more a directory needs for another name.
func (x *plain) grow(dir int) int {
	n := len(x.things[dir].slots)
	if x.slot(dir, "") >= 0 {
		return 0
	}
	return blocksOf(upTo(0, n/16+1)) - blocksOf(upTo(0, n/16))
}

func (x *plain) add(dir int, name string, ino int) {
	d := &x.things[dir]
	k := x.slot(dir, "")
	if k < 0 {
		k = len(d.slots)
		d.slots = append(d.slots, make([]api.Entry, 16)...)
		d.size += pageSize
	}
	d.slots[k] = api.Entry{Name: name, Ino: ino, Gen: x.things[ino].gen}
}

func (x *plain) drop(dir int, name string) {
	x.things[dir].slots[x.slot(dir, name)] = api.Entry{}
}

// make puts something new at a path, that has so many blocks.
func (x *plain) make(s string, kind, blocks int) (int, api.Errno) {
	dir, name, _, e := x.fresh(s)
	if e != api.OK {
		return 0, e
	}
	ino := 1
	for ino < len(x.things) && x.things[ino].kind != 0 {
		ino++
	}
	if ino == len(x.things) {
		return 0, api.ErrInodes
	}
	if x.grow(dir)+blocks > x.Room() {
		return 0, api.ErrSpace
	}
	x.things[ino] = thing{kind: kind, gen: x.things[ino].gen + 1, links: 1, pieces: map[int]string{}}
	if kind == 2 {
		x.things[ino].parent = dir
	}
	x.add(dir, name, ino)
	return ino, api.OK
}

func (x *plain) Mkdir(s string) api.Errno {
	_, e := x.make(s, 2, 0)
	return e
}

func (x *plain) Create(s string) api.Errno {
	_, e := x.make(s, 1, 0)
	return e
}

func (x *plain) Symlink(to, s string) api.Errno {
	if _, e := names(to); e != api.OK {
		return e
	}
	ino, e := x.make(s, 3, 1)
	if e == api.OK {
		x.things[ino].size = len(to)
		x.things[ino].pieces[0] = to + blank(pageSize-len(to))
	}
	return e
}

func (x *plain) Remove(s string) api.Errno {
	ino, e := x.there(s, false)
	if e != api.OK {
		return e
	}
	if ino <= 2 {
		return api.ErrBusy
	}
	t := &x.things[ino]
	if t.kind == 2 && slices.ContainsFunc(t.slots, func(y api.Entry) bool { return y.Name != "" }) {
		return api.ErrEmpty
	}
	if t.kind != 2 && t.links == 1 && slices.Contains(x.open[:], ino) {
		return api.ErrBusy
	}
	dir, name, _, _ := x.at(s, false)
	x.drop(dir, name)
	t.links--
	if t.links == 0 {
		*t = thing{gen: t.gen}
	}
	return api.OK
}

func (x *plain) Link(from, to string) api.Errno {
	ino, e := x.there(from, false)
	if e != api.OK {
		return e
	}
	if x.things[ino].kind != 1 {
		return api.ErrFile
	}
	dir, name, _, e := x.fresh(to)
	if e != api.OK {
		return e
	}
	if x.things[ino].links == 1000 {
		return api.ErrLinks
	}
	if x.grow(dir) > x.Room() {
		return api.ErrSpace
	}
	x.things[ino].links++
	x.add(dir, name, ino)
	return api.OK
}

func (x *plain) Rename(from, to string) api.Errno {
	ino, e := x.there(from, false)
	if e != api.OK {
		return e
	}
	if ino <= 2 {
		return api.ErrBusy
	}
	dir, name, above, e := x.fresh(to)
	if e != api.OK {
		return e
	}
	if x.things[ino].kind == 2 && slices.Contains(above, ino) {
		return api.ErrLoop
	}
	old, oldName, _, _ := x.at(from, false)
	if old != dir && x.grow(dir) > x.Room() {
		return api.ErrSpace
	}
	x.drop(old, oldName)
	x.add(dir, name, ino)
	if x.things[ino].kind == 2 {
		x.things[ino].parent = dir
	}
	return api.OK
}

// text is all bytes of an inode.
func (x *plain) text(ino int) string {
	t := x.things[ino]
	b := make([]byte, t.size)
	for i, s := range t.pieces {
		copy(b[i*pageSize:], s)
	}
	return string(b)
}

func (x *plain) Readlink(s string) (string, api.Errno) {
	ino, e := x.there(s, false)
	if e == api.OK && x.things[ino].kind != 3 {
		e = api.ErrSym
	}
	if e != api.OK {
		return "", e
	}
	return x.text(ino), api.OK
}

func (x *plain) stat(ino int) api.Stat {
	t := x.things[ino]
	return api.Stat{Ino: ino, Gen: t.gen, Kind: t.kind, Links: t.links, Size: t.size}
}

func (x *plain) Stat(s string) (api.Stat, api.Errno) {
	ino, e := x.there(s, false)
	if e != api.OK {
		return api.Stat{}, e
	}
	return x.stat(ino), api.OK
}

func (x *plain) list(ino int) []api.Entry {
	var l []api.Entry
	for _, y := range x.things[ino].slots {
		if y.Name != "" {
			l = append(l, y)
		}
	}
	return l
}

func (x *plain) List(s string) ([]api.Entry, api.Errno) {
	ino, e := x.there(s, true)
	if e == api.OK && x.things[ino].kind != 2 {
		e = api.ErrDir
	}
	if e != api.OK {
		return nil, e
	}
	return x.list(ino), api.OK
}

func (x *plain) Dump() ([]api.Node, api.Errno) {
	l := []api.Node{{Path: "/", Stat: x.stat(1)}}
	return append(l, x.within(1, "/")...), api.OK
}

// within is all that is in a directory.
func (x *plain) within(dir int, path string) []api.Node {
	var l []api.Node
	for _, y := range x.list(dir) {
		n := api.Node{Path: path + y.Name, Stat: x.stat(y.Ino)}
		if n.Stat.Kind != 2 {
			n.Data = x.text(y.Ino)
		}
		l = append(l, n)
		if n.Stat.Kind == 2 {
			l = append(l, x.within(y.Ino, n.Path+"/")...)
		}
	}
	return l
}

func (x *plain) Open(s string) (int, api.Errno) {
	ino, e := x.there(s, true)
	if e != api.OK {
		return 0, e
	}
	if x.things[ino].kind == 2 {
		return 0, api.ErrFile
	}
	fd := slices.Index(x.open[:], 0)
	if fd < 0 {
		return 0, api.ErrFd
	}
	x.open[fd] = ino
	return fd, api.OK
}

// file is what is open there.
func (x *plain) file(fd int) (*thing, api.Errno) {
	if fd < 0 || fd > 15 || x.open[fd] == 0 {
		return nil, api.ErrFd
	}
	return &x.things[x.open[fd]], api.OK
}

func (x *plain) Close(fd int) api.Errno {
	_, e := x.file(fd)
	if e == api.OK {
		x.open[fd] = 0
	}
	return e
}

func (x *plain) Read(fd, at, n int) (string, api.Errno) {
	t, e := x.file(fd)
	if e != api.OK {
		return "", e
	}
	if at < 0 || at > maxSize || n < 0 || n > 1024 {
		return "", api.ErrRange
	}
	b := make([]byte, max(min(n, t.size-at), 0))
	for i := range b {
		if s, ok := t.pieces[(at+i)/pageSize]; ok {
			b[i] = s[(at+i)%pageSize]
		}
	}
	return string(b), api.OK
}

func (x *plain) Write(fd, at int, s string) api.Errno {
	t, e := x.file(fd)
	if e != api.OK {
		return e
	}
	if len(s) > 1024 {
		return api.ErrLong
	}
	if at < 0 || at > maxSize || at+len(s) > maxSize {
		return api.ErrRange
	}
	pieces := maps.Clone(t.pieces)
	for i := range len(s) {
		k := (at + i) / pageSize
		if _, ok := pieces[k]; !ok {
			pieces[k] = blank(pageSize)
		}
	}
	if blocksOf(slices.Collect(maps.Keys(pieces)))-blocksOf(t.indices()) > x.Room() {
		return api.ErrSpace
	}
	for k := range pieces {
		b := []byte(pieces[k])
		for i := range b {
			if place := k*pageSize + i - at; place >= 0 && place < len(s) {
				b[i] = s[place]
			}
		}
		pieces[k] = string(b)
	}
	t.pieces = pieces
	if s != "" {
		t.size = max(t.size, at+len(s))
	}
	return api.OK
}

func (x *plain) Trunc(fd, size int) api.Errno {
	t, e := x.file(fd)
	if e != api.OK {
		return e
	}
	if size < 0 || size > maxSize {
		return api.ErrRange
	}
	for k, s := range t.pieces {
		switch {
		case k*pageSize >= size:
			delete(t.pieces, k)
		case (k+1)*pageSize > size:
			t.pieces[k] = s[:size-k*pageSize] + blank((k+1)*pageSize-size)
		}
	}
	t.size = size
	return api.OK
}

func (x *plain) Sync() api.Errno { return api.OK }
