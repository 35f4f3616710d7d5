package vfs_test

import (
	"math/rand"
	"reflect"
	"strconv"
	"strings"
	"testing"

	"grapnel/api"
	"grapnel/plate"
	"grapnel/vault"
	"grapnel/vfs"
)

// chance makes up calls. How likely each kind is hangs on a mood, so that trees fill up and empty again.
type chance struct {
	*rand.Rand
	names []string
	full  bool // it is more put than taken away
	far   bool // files have holes, and bytes behind tables
}

func newChance(seed int64, names int, far bool) *chance {
	c := &chance{Rand: rand.New(rand.NewSource(seed)), far: far}
	for i := range names {
		c.names = append(c.names, "n"+strconv.Itoa(i))
	}
	return c
}

// wrong is paths that may not be, and such as are always there.
func (c *chance) wrong() string {
	l := []string{"/", "", "a", "/lost+found", "/lost+found/x", "/a/", "//", "/..", "/" + strings.Repeat("n", 20), strings.Repeat("/nnnnnnnnnn", 24), "/\x7f", "/ "}
	return l[c.Intn(len(l))]
}

// path is mostly one that is there, of a kind, if one is asked for; seldom a name that may be anywhere.
func (c *chance) path(x *plain, kind int) string {
	switch c.Intn(40) {
	case 0:
		return c.wrong()
	case 1, 2:
		return c.name()
	case 3, 4:
		return c.name() + c.name()
	}
	l := x.paths()
	s := "/"
	for range 10 {
		s = l[c.Intn(len(l))]
		if ino, _ := x.there(s, false); ino > 2 && (kind == 0 || x.things[ino].kind == kind) {
			break
		}
	}
	return s
}

// fresh is mostly a name in a directory that is there, or behind a path that leads elsewhere.
func (c *chance) fresh(x *plain) string {
	if c.Intn(12) == 0 {
		return c.path(x, 0)
	}
	s := c.path(x, []int{2, 2, 2, 3}[c.Intn(4)])
	if s == "/" || c.Intn(3) == 0 {
		return c.name()
	}
	return s + c.name()
}

// name is one of few, so that calls meet.
func (c *chance) name() string { return "/" + c.names[c.Intn(len(c.names))] }

// paths is all paths of a tree.
func (x *plain) paths() []string {
	l := []string{"/"}
	var add func(dir int, path string)
	add = func(dir int, path string) {
		for _, y := range x.list(dir) {
			l = append(l, path+y.Name)
			if x.things[y.Ino].kind == 2 {
				add(y.Ino, path+y.Name+"/")
			}
		}
	}
	add(1, "/")
	return l
}

// place is a byte of a file: mostly about the bounds of blocks and tables.
func (c *chance) place() int {
	bounds := []int{0, 448, 896, 5 * 448, 12 * 448, 13 * 448}
	if c.far {
		bounds = append(bounds, 123*448, 124*448, 125*448, 236*448, 348*448)
	}
	if c.far && c.Intn(30) == 0 {
		bounds = []int{12556 * 448, 12667 * 448, maxSize}
	}
	return bounds[c.Intn(len(bounds))] + []int{0, 0, 0, -1, 1, 447, -449, c.Intn(600), -c.Intn(600), -1024}[c.Intn(10)]
}

// fd is a descriptor, mostly an open one.
func (c *chance) fd(x *plain) int {
	if c.Intn(30) == 0 {
		return []int{-1, 16, 15, 1 << 40}[c.Intn(4)]
	}
	for range 30 {
		if fd := c.Intn(16); x.open[fd] != 0 {
			return fd
		}
	}
	return c.Intn(3)
}

func (c *chance) act(x *plain) act {
	put := []string{"mkdir", "create", "create", "symlink", "link", "link", "open", "open", "write", "write", "write", "write", "write"}
	take := []string{"remove", "remove", "close", "trunc", "remove", "rename"}
	ask := []string{"rename", "rename", "readlink", "stat", "list", "read", "read", "trunc", "open", "close", "sync", "write"}
	k := c.Intn(3)
	if c.full && k == 1 && c.Intn(6) > 0 {
		k = 0
	}
	if !c.full && k == 0 && c.Intn(2) > 0 {
		k = 1
	}
	kinds := [][]string{put, take, ask}[k]
	a := act{call: kinds[c.Intn(len(kinds))]}
	switch a.call {
	case "mkdir", "create":
		a.s = c.fresh(x)
	case "symlink":
		a.s, a.to = c.fresh(x), c.path(x, c.Intn(4))
	case "link":
		a.s, a.to = c.path(x, 1), c.fresh(x)
	case "rename":
		a.s, a.to = c.path(x, 0), c.fresh(x)
	case "open":
		a.s = c.path(x, []int{1, 1, 1, 3, 2}[c.Intn(5)])
	case "remove", "stat":
		a.s = c.path(x, 0)
	case "readlink":
		a.s = c.path(x, []int{3, 3, 0}[c.Intn(3)])
	case "list":
		a.s = c.path(x, []int{2, 2, 3, 0}[c.Intn(4)])
	case "close":
		a.fd = c.fd(x)
	case "write":
		a.fd, a.at, a.s = c.fd(x), c.place(), filled(c.Intn(1000), []int{0, 1, 2, 447, 448, 449, 896, 1023, 1024, 1025, c.Intn(1025), c.Intn(100)}[c.Intn(12)])
	case "read":
		a.fd, a.at, a.n = c.fd(x), c.place(), []int{0, 1, 448, 449, 1024, 1025, -1, c.Intn(1025)}[c.Intn(8)]
	case "trunc":
		a.fd, a.n = c.fd(x), c.place()
	}
	return a
}

// 13.9: long rows of calls are answered as a plain tree answers, errors, sizes and free blocks among them, also where the file system is left or the device goes on from a sync.
func TestRandom(t *testing.T) {
	t.Parallel()
	for _, c := range []struct {
		live, names, rounds int
		far                 bool
	}{{48, 3, 30, false}, {48, 30, 10, true}, {55, 4, 10, true}, {56, 40, 15, false}, {80, 4, 8, true}, {136, 60, 8, true}, {300, 200, 6, true}, {1024, 8, 2, true}} {
		t.Run(strconv.Itoa(c.live), func(t *testing.T) {
			t.Parallel()
			for round := range c.rounds {
				wantRandom(t, vault.Ideal(), c.live, 600, newChance(int64(1000*c.live+round), c.names, c.far))
			}
		})
	}
	t.Run("real", func(t *testing.T) {
		t.Parallel()
		wantRandom(t, realVault(t), 60, 400, newChance(1, 3, true))
		wantRandom(t, realVault(t), 200, 400, newChance(2, 5, true))
	})
}

func wantRandom(t *testing.T, v *vault.Vault, live, calls int, c *chance) {
	t.Helper()
	p, f := made(t, v, live)
	x := newPlain(live)
	for i := range calls {
		c.full = i%200 < 130
		a := c.act(x)
		got := both(t, f, x, a)
		if got.e != api.OK && c.Intn(8) == 0 {
			alike(t, "behind a call that was refused", f, x)
		}
		switch {
		case i%151 == 150:
			f, x = leftAndMounted(t, p, v, f, x)
		case i%67 == 66:
			want(t, "Sync", f.Sync(), api.OK)
			wantOnDisk(t, p, v, x, f)
		case i%23 == 22:
			alike(t, "on the way", f, x)
		}
	}
	leftAndMounted(t, p, v, f, x)
}

// wantOnDisk holds what a device has against a plain tree, and against what the file system tells of it.
func wantOnDisk(t *testing.T, p *plate.Plate, v *vault.Vault, x *plain, f *vfs.FS) {
	t.Helper()
	got, s := readDisk(t, p, v)
	if !reflect.DeepEqual(mustDump(t, got), mustDump(t, x)) {
		t.Fatalf("on the device: %s; want %s", brief(mustDump(t, got)), brief(mustDump(t, x)))
	}
	if got.Room() != x.Room() {
		t.Fatalf("on the device %d blocks are free; want %d", got.Room(), x.Room())
	}
	for ino := range x.things {
		if got.things[ino].gen != x.things[ino].gen {
			t.Fatalf("on the device the inode %d has the generation %d; want %d", ino, got.things[ino].gen, x.things[ino].gen)
		}
	}
	if a := f.Anchor(); a.Epoch != s.Epoch || a.Root != s.Root {
		t.Fatalf("Anchor: %v; on the device %v", a, s)
	}
}

// leftAndMounted leaves a file system, and mounts it again.
func leftAndMounted(t *testing.T, p *plate.Plate, v *vault.Vault, f *vfs.FS, x *plain) (*vfs.FS, *plain) {
	t.Helper()
	want(t, "Leave", f.Leave(), api.OK)
	wantOnDisk(t, p, v, x, f)
	p.Start(nil)
	g, e := vfs.Mount(p, v, f.Anchor())
	want(t, "Mount", e, api.OK)
	x = x.mounted()
	alike(t, "mounted again", g, x)
	return g, x
}
