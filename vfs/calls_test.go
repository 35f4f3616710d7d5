package vfs_test

import (
	"math"
	"slices"
	"strconv"
	"strings"
	"testing"

	"grapnel/api"
	"grapnel/plate"
	"grapnel/vault"
	"grapnel/vfs"
)

// run does calls of a file system and of its plain tree, all of which must be OK.
func run(t *testing.T, f *vfs.FS, x *plain, l []act) {
	t.Helper()
	for _, a := range l {
		want(t, a.call+" "+a.s, both(t, f, x, a).e, api.OK)
	}
}

// lay puts a tree on a device block by block, as a repair might leave it: inodes that have few blocks, in the order of the inodes.
func lay(t *testing.T, v *vault.Vault, x *plain) *plate.Plate {
	t.Helper()
	p := newDevice(t, sectorsOf(x.live))
	mustMake(t, p, v)
	blocks := map[int]piece{}
	next := dataOf(x.live)
	var used []int
	for ino := 1; ino < len(x.things); ino++ {
		th := x.things[ino]
		if th.kind != 0 {
			used = append(used, ino-1)
		}
		i := api.Inode{Kind: th.kind, Links: th.links, Size: th.size, Parent: th.parent}
		for _, index := range th.indices() {
			at := next
			switch {
			case ino == 1 && index == 0:
				at = rootOf(x.live)
			case ino == 2:
				at = lostOf(x.live) + index
			default:
				next++
			}
			i.Direct[index] = at
			if th.kind == 2 {
				blocks[at] = piece{6, ino, th.gen, index, pageText(th.slots[16*index : 16*index+16])}
			} else {
				blocks[at] = piece{7, ino, th.gen, index, th.pieces[index]}
			}
		}
		blocks[28+ino] = piece{5, ino, th.gen, 0, inodeText(i)}
	}
	blocks[27] = piece{3, 0, 0, 0, gridText(upTo(0, next))}
	blocks[28] = piece{4, 0, 0, 0, gridText(used)}
	forge(t, p, v, blocks)
	crown(t, p, v, func(s *api.Super) { s.Next = 1<<40 + 1 })
	return p
}

// town is a tree of all kinds, something in lost+found, and paths that lead to others.
func town() *plain {
	x := newPlain(400)
	acts := []act{
		{call: "create", s: "/f"}, {call: "mkdir", s: "/d"}, {call: "create", s: "/d/g"}, {call: "link", s: "/d/g", to: "/h"}, {call: "mkdir", s: "/d/e"}, {call: "mkdir", s: "/e"},
		{call: "create", s: "/e/x"}, {call: "remove", s: "/e/x"},
		{call: "symlink", s: "/s", to: "/d"}, {call: "symlink", s: "/sf", to: "/f"}, {call: "symlink", s: "/sn", to: "/none"}, {call: "symlink", s: "/sl", to: "/lost+found"},
		{call: "symlink", s: "/loop", to: "/loop"}, {call: "symlink", s: "/sr", to: "/"}, {call: "symlink", s: "/d/up", to: "/s/e"}, {call: "symlink", s: "/long", to: "/" + strings.Repeat("nnnnnnnnnnnnnn/", 16) + "nnnnnnnnnnnnnn"},
		{call: "create", s: "/tmp"}, {call: "mkdir", s: "/tmq"}, {call: "create", s: "/tmq/x"}, {call: "symlink", s: "/tmr", to: "/d"},
		{call: "open", s: "/f"}, {call: "write", at: 0, s: filled(1, 1000)}, {call: "close"},
	}
	for i := 1; i <= 9; i++ {
		n := strconv.Itoa(i)
		before := act{call: "symlink", s: "/c1", to: "/f"}
		beforeDir := act{call: "symlink", s: "/k1", to: "/d"}
		if i > 1 {
			before = act{call: "symlink", s: "/c" + n, to: "/c" + strconv.Itoa(i-1)}
			beforeDir = act{call: "symlink", s: "/k" + n, to: "/k" + strconv.Itoa(i-1)}
		}
		acts = append(acts, before, beforeDir)
	}
	for _, a := range acts {
		if do(x, a).e != api.OK {
			panic(a)
		}
	}
	// What a repair found without a name.
	for i, name := range []string{"tmp", "tmq", "tmr"} {
		ino, _ := x.there("/"+name, false)
		x.drop(1, name)
		x.add(2, strconv.Itoa(i), ino)
		if x.things[ino].kind == 2 {
			x.things[ino].parent = 2
		}
	}
	return x
}

// townPaths is what is there, what is not, and what may not be.
func townPaths() []string {
	return []string{
		"/", "/f", "/f/x", "/f/x/y", "/d", "/d/g", "/d/g/x", "/d/none", "/none", "/none/x", "/d/e", "/d/e/x", "/d/e/x/y", "/e", "/e/x", "/h", "/d/up", "/d/up/x",
		"/lost+found", "/lost+found/x", "/lost+found/0", "/lost+found/0/x", "/lost+found/1", "/lost+found/1/x", "/lost+found/1/y", "/lost+found/2", "/lost+found/2/g", "/lost+found/2/n",
		"/s", "/s/g", "/s/none", "/s/e/x", "/sf", "/sf/x", "/sn", "/sn/x", "/sl", "/sl/x", "/sl/0", "/sl/1/y", "/loop", "/loop/x", "/sr", "/sr/f", "/sr/new", "/sr/sr/sr/new", "/sr/lost+found", "/long", "/long/x",
		"/c7", "/c8", "/c9", "/c8/x", "/c9/x", "/k7", "/k8", "/k9", "/k8/g", "/k9/g", "/k8/new", "/k9/new", "/k8/up/x", "/k7/up/x", "/k6/up/x",
		"", "x", "x/y", "//", "/f/", "/d//g", "/.", "/d/..", "/\x1f", "/ ", "/\x80", "/" + strings.Repeat("n", 19), "/" + strings.Repeat("n", 20), "/none/" + strings.Repeat("n", 20),
		"/d/" + strings.Repeat("n/", 126), "/" + strings.Repeat("abcdefghijklmno/", 15) + "abcdefghijklmn", "/" + strings.Repeat("abcdefghijklmno/", 15) + "abcdefghijklmno", "/d" + strings.Repeat("/nnnnnnnnnnnnnnnnnnnnnnnnnnnnnnn", 9),
	}
}

// townCalls is every call by a path, at every path, and by two at every two.
func townCalls() []act {
	var l []act
	for _, s := range townPaths() {
		for _, call := range []string{"mkdir", "create", "remove", "readlink", "stat", "list", "open"} {
			l = append(l, act{call: call, s: s})
		}
		for _, to := range townPaths() {
			for _, call := range []string{"link", "rename", "symlink"} {
				l = append(l, act{call: call, s: s, to: to})
			}
		}
	}
	return l
}

// 13.3 to 13.7: every call at what is there, at what is not there, at the root, at lost+found and what is in it, at files and directories where the other must be, behind paths that lead to others. A call that is refused changes nothing.
func TestCallsEverywhere(t *testing.T) {
	t.Parallel()
	v := vault.Ideal()
	tree := town()
	start := lay(t, v, tree)
	f := mustMount(t, start, v)
	alike(t, "a town", f, tree)
	told := map[string]int{}
	x := tree.mounted()
	for i, a := range townCalls() {
		was := f.Anchor()
		got := both(t, f, x, a)
		told[a.call+" "+strconv.Itoa(int(got.e))]++
		if got.e != api.OK {
			want(t, "Sync", f.Sync(), api.OK)
			if f.Anchor() != was {
				t.Fatalf("%v was refused with %d, and there was something to commit", a, got.e)
			}
			continue
		}
		alike(t, a.call, f, x)
		if got.entries != nil || got.text != "" || got.stat != (api.Stat{}) {
			continue
		}
		// Each call that changes something is followed by the town as it was. What is open is open whoever asks.
		f, x = mustMount(t, start.Copy(), v), tree.mounted()
		if i%2 == 0 {
			run(t, f, x, []act{{call: "open", s: "/f"}, {call: "open", s: "/h"}, {call: "open", s: "/lost+found/0"}})
		}
	}
	// Each error was told by each call that can tell it.
	for call, errors := range map[string][]api.Errno{
		"mkdir": {0, 4, 40, 41, 42, 44, 45, 53}, "create": {0, 4, 40, 41, 42, 44, 45, 53}, "remove": {0, 4, 40, 41, 42, 45, 46, 53}, "readlink": {0, 4, 40, 41, 42, 53, 54}, "stat": {0, 4, 40, 41, 42, 53},
		"list": {0, 4, 40, 41, 42, 53}, "open": {0, 4, 40, 41, 42, 43, 53}, "link": {0, 4, 40, 41, 42, 43, 44, 45, 53}, "rename": {0, 4, 40, 41, 42, 44, 45, 47, 53}, "symlink": {0, 4, 40, 41, 42, 44, 45, 53},
	} {
		for _, e := range errors {
			if told[call+" "+strconv.Itoa(int(e))] == 0 {
				t.Errorf("no %s told the error %d", call, e)
			}
		}
	}
}

// 13.3: what is followed, spelt out: eight paths that lead to others, and one more; where names are left, and at the end.
func TestFollowed(t *testing.T) {
	v := vault.Ideal()
	f := mustMount(t, lay(t, v, town()), v)
	for _, c := range []struct {
		a act
		e api.Errno
	}{
		{act{call: "open", s: "/c8"}, api.OK}, {act{call: "open", s: "/c9"}, api.ErrTangle}, {act{call: "stat", s: "/c9"}, api.OK}, {act{call: "readlink", s: "/c9"}, api.OK},
		{act{call: "list", s: "/k8"}, api.OK}, {act{call: "list", s: "/k9"}, api.ErrTangle}, {act{call: "stat", s: "/k8/g"}, api.OK}, {act{call: "stat", s: "/k9/g"}, api.ErrTangle},
		{act{call: "open", s: "/loop"}, api.ErrTangle}, {act{call: "stat", s: "/loop/x"}, api.ErrTangle}, {act{call: "stat", s: "/loop"}, api.OK},
		{act{call: "open", s: "/sn"}, api.ErrNone}, {act{call: "open", s: "/s"}, api.ErrFile}, {act{call: "list", s: "/sf"}, api.ErrDir}, {act{call: "list", s: "/sr"}, api.OK},
		{act{call: "create", s: "/sn"}, api.ErrExist}, {act{call: "create", s: "/sn/x"}, api.ErrNone}, {act{call: "create", s: "/sf/x"}, api.ErrDir}, {act{call: "create", s: "/sl/x"}, api.ErrBusy},
		{act{call: "remove", s: "/sr/lost+found"}, api.ErrBusy}, {act{call: "mkdir", s: "/k9/new"}, api.ErrTangle}, {act{call: "mkdir", s: "/k8/new"}, api.OK},
		{act{call: "remove", s: "/s"}, api.OK}, {act{call: "stat", s: "/d/g"}, api.OK}, {act{call: "stat", s: "/s/g"}, api.ErrNone},
	} {
		want(t, c.a.call+" "+c.a.s, do(f, c.a).e, c.e)
	}
	if s, e := f.Readlink("/long"); len(s) != 255 || e != api.OK {
		t.Fatalf("Readlink of the longest: %d bytes, error %d", len(s), e)
	}
}

// 13.4: the last free inode, and one more; the least one that is free is taken, of a generation 1 greater.
func TestInodes(t *testing.T) {
	onVaults(t, func(t *testing.T, v *vault.Vault) {
		_, f := made(t, v, 48)
		x := newPlain(48)
		run(t, f, x, []act{{call: "create", s: "/a"}, {call: "mkdir", s: "/b"}, {call: "symlink", s: "/c", to: "/a"}, {call: "create", s: "/d"}})
		for _, call := range []string{"create", "mkdir", "symlink"} {
			want(t, call, both(t, f, x, act{call: call, s: "/e", to: "/f"}).e, api.ErrInodes)
			// A path's own error is told ahead.
			want(t, call, both(t, f, x, act{call: call, s: "/a", to: "/f"}).e, api.ErrExist)
		}
		// Names need none.
		run(t, f, x, []act{{call: "link", s: "/a", to: "/e"}, {call: "rename", s: "/e", to: "/b/e"}})
		run(t, f, x, []act{{call: "remove", s: "/b/e"}})
		for _, s := range []string{"/d", "/c", "/a"} {
			run(t, f, x, []act{{call: "remove", s: s}, {call: "create", s: "/new"}, {call: "stat", s: "/new"}, {call: "remove", s: "/new"}, {call: "mkdir", s: "/new"}, {call: "stat", s: "/new"}, {call: "remove", s: "/new"}})
		}
		run(t, f, x, []act{{call: "mkdir", s: "/new"}})
		st, e := f.Stat("/new")
		if st != (api.Stat{Ino: 3, Gen: 4, Kind: 2, Links: 1}) || e != api.OK {
			t.Fatalf("Stat: %v, error %d", st, e)
		}
	})
}

// 13.4 to 13.7: the last free block, and one more, of each call that needs blocks. What is asked for is told to be lacking just if it is.
func TestSpace(t *testing.T) {
	v := vault.Ideal()
	for free := range 5 {
		for _, c := range []struct {
			name  string
			needs int
			e     api.Errno
			l     []act // of which the last one needs the blocks
		}{
			{"a block", 1, api.ErrSpace, []act{{call: "write", fd: 1, at: 0, s: "x"}}},
			{"two blocks", 2, api.ErrSpace, []act{{call: "write", fd: 1, at: 447, s: "xx"}}},
			{"four blocks", 4, api.ErrSpace, []act{{call: "write", fd: 1, at: 447, s: filled(1, 1024)}}},
			{"a table", 2, api.ErrSpace, []act{{call: "write", fd: 1, at: 12 * 448, s: "x"}}},
			{"tables", 3, api.ErrSpace, []act{{call: "write", fd: 1, at: 124 * 448, s: "x"}}},
			{"the last byte", 3, api.ErrSpace, []act{{call: "write", fd: 1, at: maxSize - 1, s: "x"}}},
			{"a block that is there", 0, api.ErrSpace, []act{{call: "write", fd: 0, at: 1, s: filled(2, 447)}}},
			{"a hole", 0, api.ErrSpace, []act{{call: "trunc", fd: 1, n: maxSize}}},
			{"nothing", 0, api.ErrSpace, []act{{call: "write", fd: 1, at: maxSize}}},
			{"a path", 1, api.ErrSpace, []act{{call: "symlink", s: "/new", to: "/"}}},
			{"a name", 0, api.ErrSpace, []act{{call: "create", s: "/new"}}},
			{"a first name", 1, api.ErrSpace, []act{{call: "mkdir", s: "/new"}, {call: "create", s: "/new/x"}}},
			{"a first directory", 1, api.ErrSpace, []act{{call: "mkdir", s: "/new"}, {call: "mkdir", s: "/new/x"}}},
			{"a first path", 2, api.ErrSpace, []act{{call: "mkdir", s: "/new"}, {call: "symlink", s: "/new/x", to: "/"}}},
			{"a first link", 1, api.ErrSpace, []act{{call: "mkdir", s: "/new"}, {call: "link", s: "/a", to: "/new/x"}}},
			{"a name that moves", 1, api.ErrSpace, []act{{call: "mkdir", s: "/new"}, {call: "rename", s: "/a", to: "/new/x"}}},
			{"a name that moves to a slot", 0, api.ErrSpace, []act{{call: "rename", s: "/b", to: "/c"}}},
		} {
			p, f := made(t, v, 64)
			x := newPlain(64)
			run(t, f, x, []act{{call: "create", s: "/a"}, {call: "create", s: "/b"}, {call: "create", s: "/rest"}, {call: "open", s: "/a"}, {call: "open", s: "/b"}, {call: "open", s: "/rest"}, {call: "write", s: "first"}})
			for i := 0; x.Room() > free; i++ {
				// Blocks 0 to 11 need no table; one more with its table makes up for it.
				at := i * 448
				if i == 12 && x.Room() == free+1 {
					t.Fatal("a table is too much")
				}
				run(t, f, x, []act{{call: "write", fd: 2, at: at, s: "x"}})
			}
			run(t, f, x, c.l[:len(c.l)-1])
			must := api.OK
			if c.needs > free {
				must = c.e
			}
			want(t, c.name, both(t, f, x, c.l[len(c.l)-1]).e, must)
			if f.Room() != x.Room() || must == api.OK && f.Room() != free-c.needs {
				t.Fatalf("%s, %d free: Room %d", c.name, free, f.Room())
			}
			leftAndMounted(t, p, v, f, x)
		}
	}
}

// 13.5: in a full directory a name moves into its own slot, though no block is free; another one does not.
func TestSpaceOldSlot(t *testing.T) {
	v := vault.Ideal()
	p, f := made(t, v, 48)
	x := newPlain(48)
	run(t, f, x, []act{{call: "create", s: "/a"}, {call: "open", s: "/a"}, {call: "mkdir", s: "/d"}})
	for i := range 13 {
		run(t, f, x, []act{{call: "link", s: "/a", to: "/l" + strconv.Itoa(i)}})
	}
	for i := range 11 {
		run(t, f, x, []act{{call: "write", at: i * 448, s: "x"}})
	}
	if f.Room() != 0 || len(x.list(1)) != 16 {
		t.Fatalf("Room %d, %d names", f.Room(), len(x.list(1)))
	}
	want(t, "Link", both(t, f, x, act{call: "link", s: "/a", to: "/more"}).e, api.ErrSpace)
	want(t, "Rename", both(t, f, x, act{call: "rename", s: "/a", to: "/d/a"}).e, api.ErrSpace)
	run(t, f, x, []act{{call: "rename", s: "/l3", to: "/m3"}, {call: "rename", s: "/d", to: "/e"}})
	f, x = leftAndMounted(t, p, v, f, x)
	// With a block more the name goes into it.
	run(t, f, x, []act{{call: "open", s: "/a"}, {call: "trunc", n: 448}, {call: "rename", s: "/a", to: "/e/a"}})
	leftAndMounted(t, p, v, f, x)
}

// 13.5: names up to MaxLinks, and one more; the directory grows by blocks, and by a table, and its slots become free.
func TestLinks(t *testing.T) {
	t.Parallel()
	v := vault.Ideal()
	p, f := made(t, v, 200)
	x := newPlain(200)
	run(t, f, x, []act{{call: "create", s: "/a"}, {call: "mkdir", s: "/d"}})
	for i := 1; i < 1000; i++ {
		dir := "/d/"
		if i%10 == 0 {
			dir = "/"
		}
		run(t, f, x, []act{{call: "link", s: "/a", to: dir + strconv.Itoa(i)}})
	}
	st, e := f.Stat("/d/7")
	if st.Links != 1000 || e != api.OK {
		t.Fatalf("Stat: %v, error %d", st, e)
	}
	want(t, "Link", both(t, f, x, act{call: "link", s: "/d/7", to: "/d/more"}).e, api.ErrLinks)
	// Whether something new may be put there is told ahead.
	want(t, "Link", both(t, f, x, act{call: "link", s: "/a", to: "/a"}).e, api.ErrExist)
	want(t, "Link", both(t, f, x, act{call: "link", s: "/a", to: "/lost+found/x"}).e, api.ErrBusy)
	run(t, f, x, []act{{call: "remove", s: "/d/555"}, {call: "remove", s: "/d/111"}, {call: "link", s: "/a", to: "/d/more"}, {call: "stat", s: "/d/more"}})
	if l, _ := f.List("/d"); l[slices.IndexFunc(l, func(y api.Entry) bool { return y.Name == "more" })-1].Name != "109" {
		t.Fatalf("the new name stands at %v", l)
	}
	f, x = leftAndMounted(t, p, v, f, x)
	for i := 1; i < 1000; i++ {
		dir := "/d/"
		if i%10 == 0 {
			dir = "/"
		}
		if i != 555 && i != 111 {
			run(t, f, x, []act{{call: "remove", s: dir + strconv.Itoa(i)}})
		}
	}
	run(t, f, x, []act{{call: "remove", s: "/d/more"}, {call: "remove", s: "/a"}, {call: "remove", s: "/d"}})
	leftAndMounted(t, p, v, f, x)
}

// 13.7: sixteen descriptors, and one more; the least that is not open.
func TestDescriptors(t *testing.T) {
	v := vault.Ideal()
	_, f := made(t, v, 48)
	x := newPlain(48)
	run(t, f, x, []act{{call: "create", s: "/a"}, {call: "create", s: "/b"}, {call: "symlink", s: "/s", to: "/a"}})
	for i := range 16 {
		if got := both(t, f, x, act{call: "open", s: []string{"/a", "/b", "/s"}[i%3]}); got.n != i || got.e != api.OK {
			t.Fatalf("Open: %d, error %d; want %d", got.n, got.e, i)
		}
	}
	want(t, "Open", both(t, f, x, act{call: "open", s: "/a"}).e, api.ErrFd)
	// A path's own error, and a directory, are told ahead.
	want(t, "Open", both(t, f, x, act{call: "open", s: "/none"}).e, api.ErrNone)
	want(t, "Open", both(t, f, x, act{call: "open", s: "/"}).e, api.ErrFile)
	for _, fd := range []int{7, 3, 15, 0} {
		run(t, f, x, []act{{call: "close", fd: fd}})
		want(t, "Close", both(t, f, x, act{call: "close", fd: fd}).e, api.ErrFd)
	}
	for _, fd := range []int{0, 3, 7, 15} {
		if got := both(t, f, x, act{call: "open", s: "/b"}); got.n != fd || got.e != api.OK {
			t.Fatalf("Open: %d, error %d; want %d", got.n, got.e, fd)
		}
	}
	for _, fd := range []int{-1, 16, 17, math.MinInt, math.MaxInt, 1 << 32} {
		for _, a := range []act{{call: "close"}, {call: "read", at: -1}, {call: "write", s: filled(1, 2000)}, {call: "trunc", n: -1}} {
			a.fd = fd
			want(t, a.call, both(t, f, x, a).e, api.ErrFd)
		}
	}
}

// 13.4: a file that is open stays as long as it has one name, be it renamed or linked.
func TestOpenStays(t *testing.T) {
	v := vault.Ideal()
	_, f := made(t, v, 48)
	x := newPlain(48)
	run(t, f, x, []act{{call: "create", s: "/a"}, {call: "open", s: "/a"}, {call: "open", s: "/a"}, {call: "write", s: "abc"}, {call: "link", s: "/a", to: "/b"}, {call: "remove", s: "/a"}})
	want(t, "Remove", both(t, f, x, act{call: "remove", s: "/b"}).e, api.ErrBusy)
	run(t, f, x, []act{{call: "rename", s: "/b", to: "/c"}, {call: "read", fd: 1, n: 10}, {call: "close", fd: 0}})
	want(t, "Remove", both(t, f, x, act{call: "remove", s: "/c"}).e, api.ErrBusy)
	run(t, f, x, []act{{call: "write", fd: 1, at: 1, s: "x"}, {call: "read", fd: 1, n: 10}, {call: "close", fd: 1}, {call: "remove", s: "/c"}})
	// The inode's next file is another one: it is not open.
	run(t, f, x, []act{{call: "create", s: "/a"}, {call: "remove", s: "/a"}})
	want(t, "Read", both(t, f, x, act{call: "read", fd: 1, n: 10}).e, api.ErrFd)
}

// edges is bytes at the bounds of blocks, of tables and of MaxSize.
func edges() []int {
	var l []int
	for _, index := range []int{0, 1, 2, 11, 12, 13, 122, 123, 124, 125, 235, 236, 12555, 12556, 12667, 12668} {
		for _, d := range []int{-2, -1, 0, 1, 447} {
			l = append(l, index*448+d)
		}
	}
	return append(l, -1024, math.MinInt, math.MaxInt, math.MaxInt-1, 1<<32, maxSize-1024, maxSize-1023, maxSize-1025)
}

// 13.7: reads, writes and cuts at all of these.
func TestBytesAtEdges(t *testing.T) {
	t.Parallel()
	v := vault.Ideal()
	p, f := made(t, v, 300)
	x := newPlain(300)
	run(t, f, x, []act{{call: "create", s: "/a"}, {call: "open", s: "/a"}})
	lengths := []int{0, 1, 2, 3, 447, 448, 449, 896, 897, 1023, 1024, 1025, 4096, -1, math.MinInt, math.MaxInt}
	for i, at := range edges() {
		for _, n := range lengths {
			both(t, f, x, act{call: "read", at: at, n: n})
			if n >= 0 && n <= 4096 {
				both(t, f, x, act{call: "write", at: at, s: filled(i+n, n)})
				both(t, f, x, act{call: "read", at: max(at, 3) - 3, n: 1024})
			}
		}
		if i%9 == 8 {
			f, x = leftAndMounted(t, p, v, f, x)
			run(t, f, x, []act{{call: "open", s: "/a"}})
		}
	}
	for i, size := range append(edges(), 0, maxSize, 1, 900) {
		both(t, f, x, act{call: "trunc", n: size})
		both(t, f, x, act{call: "read", at: max(min(size, maxSize)-500, 0), n: 1024})
		both(t, f, x, act{call: "write", at: edges()[i*7%len(edges())], s: filled(i, 700)})
		if i%9 == 8 {
			f, x = leftAndMounted(t, p, v, f, x)
			run(t, f, x, []act{{call: "open", s: "/a"}})
		}
	}
	leftAndMounted(t, p, v, f, x)
}

// 13.7: cut to each size: indices and tables that have nothing more go; what was behind comes not back.
func TestTruncTables(t *testing.T) {
	t.Parallel()
	v := vault.Ideal()
	p, f := made(t, v, 100)
	x := newPlain(100)
	run(t, f, x, []act{{call: "create", s: "/a"}, {call: "open", s: "/a"}})
	room := f.Room()
	sizes := []int{0, 1, 448, 11 * 448, 12*448 - 1, 12 * 448, 12*448 + 1, 13 * 448, 124*448 - 1, 124 * 448, 124*448 + 1, 125 * 448, 236*448 - 1, 236 * 448, 236*448 + 1, 237 * 448, 12556 * 448, 12556*448 + 1, maxSize - 1, maxSize}
	for _, size := range sizes {
		for _, index := range []int{0, 11, 12, 123, 124, 125, 235, 236, 237, 12556, 12667} {
			run(t, f, x, []act{{call: "write", at: index * 448, s: filled(index, 448)}})
		}
		if f.Room() != room-11-1-1-3 {
			t.Fatalf("Room %d of %d", f.Room(), room)
		}
		run(t, f, x, []act{{call: "trunc", n: size}, {call: "sync"}})
		wantOnDisk(t, p, v, x, f)
		run(t, f, x, []act{{call: "trunc", n: maxSize}})
		for _, index := range []int{0, 11, 12, 123, 124, 235, 236, 12556, 12667} {
			run(t, f, x, []act{{call: "read", at: index * 448, n: 1024}})
		}
	}
	run(t, f, x, []act{{call: "trunc"}})
	if f.Room() != room {
		t.Fatalf("Room %d of %d", f.Room(), room)
	}
	leftAndMounted(t, p, v, f, x)
}

// 13.6: what is told of directories and their slots, as they stand.
func TestSlots(t *testing.T) {
	v := vault.Ideal()
	p, f := made(t, v, 160)
	x := newPlain(160)
	run(t, f, x, []act{{call: "mkdir", s: "/d"}, {call: "create", s: "/a"}})
	room := f.Room()
	for i := range 33 {
		run(t, f, x, []act{{call: "link", s: "/a", to: "/d/" + strconv.Itoa(i)}})
		if f.Room() != room-1-i/16 {
			t.Fatalf("Room behind %d names: %d of %d", i+1, f.Room(), room)
		}
	}
	for _, i := range []int{20, 3, 32} {
		run(t, f, x, []act{{call: "remove", s: "/d/" + strconv.Itoa(i)}})
	}
	for _, s := range []string{"x", "y", "z", "more"} {
		run(t, f, x, []act{{call: "link", s: "/a", to: "/d/" + s}, {call: "list", s: "/d"}})
	}
	l, _ := f.List("/d")
	if l[3].Name != "x" || l[20].Name != "y" || l[32].Name != "z" || l[33].Name != "more" {
		t.Fatalf("List: %v", l)
	}
	run(t, f, x, []act{{call: "rename", s: "/d/z", to: "/z"}, {call: "rename", s: "/z", to: "/d/zz"}, {call: "list", s: "/d"}})
	for _, y := range l {
		if y.Name != "z" {
			run(t, f, x, []act{{call: "remove", s: "/d/" + y.Name}})
		}
	}
	want(t, "Remove", both(t, f, x, act{call: "remove", s: "/d"}).e, api.ErrEmpty)
	run(t, f, x, []act{{call: "remove", s: "/d/zz"}, {call: "stat", s: "/d"}, {call: "remove", s: "/d"}})
	if f.Room() != room {
		t.Fatalf("Room %d of %d", f.Room(), room)
	}
	leftAndMounted(t, p, v, f, x)
}

// 13.6: Dump tells paths however long they are: directories move with all that is in them.
func TestDumpDeep(t *testing.T) {
	v := vault.Ideal()
	p, f := made(t, v, 400)
	x := newPlain(400)
	name := "/" + strings.Repeat("n", 19)
	for i, dir := range []string{"/a", "/b", "/c"} {
		run(t, f, x, []act{{call: "mkdir", s: dir}})
		at := dir
		for range 10 {
			at += name
			run(t, f, x, []act{{call: "mkdir", s: at}})
		}
		run(t, f, x, []act{{call: "symlink", s: "/s" + dir[1:], to: at}})
		if i > 0 {
			run(t, f, x, []act{{call: "rename", s: []string{"", "/a", "/b"}[i], to: "/s" + dir[1:] + "/in"}})
		}
	}
	alike(t, "deep", f, x)
	longest := 0
	for _, n := range mustDump(t, f) {
		longest = max(longest, len(n.Path))
	}
	if longest != 202+203+203 {
		t.Fatalf("the longest path has %d bytes", longest)
	}
	leftAndMounted(t, p, v, f, x)
}

// 13.5: a directory does not move into itself, nor into what lies in it, by whatever path.
func TestRenameLoop(t *testing.T) {
	v := vault.Ideal()
	_, f := made(t, v, 100)
	x := newPlain(100)
	run(t, f, x, []act{{call: "mkdir", s: "/d"}, {call: "mkdir", s: "/d/e"}, {call: "mkdir", s: "/d/e/g"}, {call: "symlink", s: "/s", to: "/d/e"}, {call: "create", s: "/d/f"}, {call: "mkdir", s: "/dd"}})
	for _, c := range []struct {
		from, to string
		e        api.Errno
	}{
		{"/d", "/d/x", api.ErrLoop}, {"/d", "/d/e/x", api.ErrLoop}, {"/d", "/d/e/g/x", api.ErrLoop}, {"/d", "/s/x", api.ErrLoop}, {"/d", "/s/g/x", api.ErrLoop}, {"/s/g", "/d/e/g/x", api.ErrLoop},
		{"/d", "/d/f", api.ErrExist}, {"/d", "/d/e", api.ErrExist}, {"/d", "/d", api.ErrExist}, {"/d", "/d/f/x", api.ErrDir}, {"/d", "/d/n/x", api.ErrNone}, {"/d", "/lost+found/d", api.ErrBusy},
		{"/s", "/s/x", api.OK}, {"/d/e/x", "/s", api.OK}, {"/d/f", "/d/e/f", api.OK}, {"/d", "/dd/d", api.OK}, {"/dd/d/e", "/e", api.OK}, {"/dd", "/e/dd", api.OK}, {"/e", "/e/dd/d/e", api.ErrLoop},
	} {
		want(t, c.from+" to "+c.to, both(t, f, x, act{call: "rename", s: c.from, to: c.to}).e, c.e)
		alike(t, "Rename", f, x)
	}
}
