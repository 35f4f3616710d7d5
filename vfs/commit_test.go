package vfs_test

import (
	"slices"
	"strconv"
	"testing"

	"grapnel/api"
	"grapnel/plate"
	"grapnel/vault"
	"grapnel/vfs"
)

// changed is the addresses of the living part, from the grids on, whose blocks are others than they were.
func changed(p, was *plate.Plate, live int) []int {
	var l []int
	for at := 27; at < live; at++ {
		if rawAt(p, at) != rawAt(was, at) {
			l = append(l, at)
		}
	}
	return l
}

// wantCommit syncs, and holds what was written against the words: these blocks by rising addresses with the next Versions, the mount's Epoch as their Salt, and a superblock.
func wantCommit(t *testing.T, what string, p *plate.Plate, v *vault.Vault, f *vfs.FS, salt int, must ...int) {
	t.Helper()
	was := p.Copy()
	s, _ := superOn(p, v)
	want(t, what, f.Sync(), api.OK)
	next, _ := superOn(p, v)
	l := changed(p, was, s.Live)
	if !slices.Equal(l, must) {
		t.Fatalf("%s: the blocks %v were written; want %v", what, l, must)
	}
	if len(l) == 0 {
		if next != s || p.Writes() != was.Writes() {
			t.Fatalf("%s: %d writes for nothing, the superblock %v; was %v", what, p.Writes()-was.Writes(), next, s)
		}
		return
	}
	if n := p.Writes() - was.Writes(); n != 16*len(l)+16 || p.Pending() != 0 {
		t.Fatalf("%s: %d writes for %d blocks, %d wait", what, n, len(l), p.Pending())
	}
	for i, at := range l {
		if h, _ := opened(t, p, v, at); h.Version != s.Next+i || h.Salt != salt || h.Volume != 7 {
			t.Fatalf("%s: the head at %d: %+v; want the Version %d, the Salt %d", what, at, h, s.Next+i, salt)
		}
	}
	if next.Epoch != s.Epoch+1 || next.Next != s.Next+len(l) || next.Root == s.Root || next.Volume != 7 || next.Live != s.Live {
		t.Fatalf("%s: the superblock %v; was %v", what, next, s)
	}
	if a := f.Anchor(); a != (api.Anchor{Epoch: next.Epoch, Root: next.Root}) {
		t.Fatalf("%s: Anchor %v; want that of %v", what, a, next)
	}
	readDisk(t, p, v)
}

// 'Words', 13.8: which blocks a commit writes: all that were changed since the last one, and no others.
func TestCommitted(t *testing.T) {
	onVaults(t, func(t *testing.T, v *vault.Vault) {
		p, f := made(t, v, 64)
		salt := f.Anchor().Epoch
		const blocks, nodes, table, root, data = 27, 28, 29, 38, 39
		inode := func(i int) int { return table + i - 1 }
		for i, c := range []struct {
			acts []act
			must []int
		}{
			{nil, nil},
			{[]act{{call: "create", s: "/a"}}, []int{nodes, inode(3), root}},
			{nil, nil},
			{[]act{{call: "mkdir", s: "/d"}}, []int{nodes, inode(4), root}},
			{[]act{{call: "link", s: "/a", to: "/d/x"}}, []int{blocks, inode(3), inode(4), data}},
			{[]act{{call: "link", s: "/a", to: "/d/y"}}, []int{inode(3), data}},
			{[]act{{call: "rename", s: "/d/y", to: "/d/z"}}, []int{data}},
			{[]act{{call: "rename", s: "/d/z", to: "/z"}}, []int{root, data}},
			{[]act{{call: "mkdir", s: "/e"}, {call: "rename", s: "/e", to: "/d/e"}}, []int{nodes, inode(5), root, data}},
			{[]act{{call: "rename", s: "/d/e", to: "/e"}}, []int{inode(5), root, data}},
			{[]act{{call: "open", s: "/a"}, {call: "write", s: "x"}}, []int{blocks, inode(3), data + 1}},
			{[]act{{call: "write", s: "y"}}, []int{data + 1}},
			{[]act{{call: "write", at: 1, s: "y"}}, []int{inode(3), data + 1}},
			{[]act{{call: "write", at: 5, s: filled(1, 443)}}, []int{inode(3), data + 1}},
			{[]act{{call: "write", s: filled(2, 448)}}, []int{data + 1}},
			// What is as it was, and what is only asked, is no change.
			{[]act{{call: "write", s: filled(2, 448)}, {call: "write", at: 7, s: filled(2, 448)[7:100]}, {call: "write", at: 999}, {call: "trunc", n: 448}}, nil},
			{[]act{{call: "read", n: 1024}, {call: "stat", s: "/d"}, {call: "list", s: "/d"}, {call: "open", s: "/z"}, {call: "close", fd: 1}, {call: "sync"}}, nil},
			{[]act{{call: "trunc", n: 900}}, []int{inode(3)}},
			{[]act{{call: "trunc", n: 7}}, []int{inode(3), data + 1}},
			{[]act{{call: "trunc", n: 448}}, []int{inode(3)}},
			{[]act{{call: "trunc"}}, []int{blocks, inode(3)}},
			{[]act{{call: "write", at: 12 * 448, s: "x"}}, []int{blocks, inode(3), data + 1, data + 2}},
			{[]act{{call: "write", at: 13 * 448, s: "x"}}, []int{blocks, inode(3), 0, data + 3}},
			{[]act{{call: "write", at: 124 * 448, s: "x"}}, []int{blocks, inode(3), data + 4, data + 5, data + 6}},
			{[]act{{call: "trunc", n: 124 * 448}}, []int{blocks, inode(3)}},
			{[]act{{call: "trunc", n: 13 * 448}}, []int{blocks, inode(3), 0}},
			{[]act{{call: "trunc"}}, []int{blocks, inode(3)}},
			{[]act{{call: "symlink", s: "/s", to: "/a"}}, []int{blocks, nodes, inode(6), root, data + 1}},
			{[]act{{call: "remove", s: "/s"}}, []int{blocks, nodes, inode(6), root}},
			{[]act{{call: "remove", s: "/z"}}, []int{inode(3), root}},
			{[]act{{call: "remove", s: "/d/x"}, {call: "remove", s: "/d"}}, []int{blocks, nodes, inode(3), inode(4), root}},
			{[]act{{call: "close"}, {call: "remove", s: "/a"}, {call: "create", s: "/b"}}, []int{nodes, inode(3), root}},
		} {
			for _, a := range c.acts {
				want(t, a.call, do(f, a).e, api.OK)
			}
			// The table's own address, which of both it may be, stands in the inode.
			if k := slices.Index(c.must, 0); k >= 0 {
				_, body := opened(t, p, v, inode(3))
				c.must[k] = inodeOf(body).Single
				slices.Sort(c.must)
			}
			wantCommit(t, "the commit "+strconv.Itoa(i), p, v, f, salt, c.must...)
		}
	})
}

// 13.2: the Salt is the Epoch of the mount, in all commits of it; each mount has another one.
func TestSalt(t *testing.T) {
	onVaults(t, func(t *testing.T, v *vault.Vault) {
		p := newDevice(t, sectorsOf(64))
		mustMake(t, p, v)
		for i := range 4 {
			f := mustMount(t, p, v)
			salt := f.Anchor().Epoch
			s, _ := superOn(p, v)
			if s.Epoch != salt || salt != 1+4*i {
				t.Fatalf("mounted with the Epoch %d; the superblock's %d", salt, s.Epoch)
			}
			want(t, "Create", f.Create("/a"), api.OK)
			wantCommit(t, "a file", p, v, f, salt, 28, 31, 38)
			want(t, "Mkdir", f.Mkdir("/d"), api.OK)
			wantCommit(t, "a directory", p, v, f, salt, 28, 32, 38)
			want(t, "Remove", f.Remove("/d"), api.OK)
			want(t, "Remove", f.Remove("/a"), api.OK)
			wantCommit(t, "nothing", p, v, f, salt, 28, 31, 32, 38)
			want(t, "Leave", f.Leave(), api.OK)
		}
	})
}

// 'Words': 24 blocks wait; where one more would, those that waited are committed ahead, without what is done now.
func TestTwentyFour(t *testing.T) {
	onVaults(t, func(t *testing.T, v *vault.Vault) {
		p, f := made(t, v, 100)
		x := newPlain(100)
		run(t, f, x, []act{{call: "create", s: "/a"}, {call: "open", s: "/a"}})
		was, writes := f.Anchor(), p.Writes()
		// The root's block, the inode, both grids; then blocks, and a table with the thirteenth.
		for index := range 19 {
			run(t, f, x, []act{{call: "write", at: index * 448, s: "x"}, {call: "write", at: index * 448, s: "y"}})
			if f.Anchor() != was || p.Writes() != writes {
				t.Fatalf("behind the index %d: %v, %d writes", index, f.Anchor(), p.Writes()-writes)
			}
		}
		ahead := x.copy()
		// What is refused commits nothing.
		want(t, "Write", both(t, f, x, act{call: "write", at: maxSize, s: "x"}).e, api.ErrRange)
		want(t, "Write", both(t, f, x, act{call: "mkdir", s: "/a"}).e, api.ErrExist)
		// What changes no block that does not wait already commits nothing, either.
		run(t, f, x, []act{{call: "write", at: 18 * 448, s: "z"}, {call: "write", at: 18 * 448, s: "y"}, {call: "link", s: "/a", to: "/b"}, {call: "remove", s: "/b"}})
		if f.Anchor() != was {
			t.Fatalf("committed: %v", f.Anchor())
		}
		run(t, f, x, []act{{call: "write", at: 19 * 448, s: "x"}})
		if f.Anchor().Epoch != was.Epoch+1 || p.Writes() != writes+16*24+16 {
			t.Fatalf("behind one more: %v, %d writes", f.Anchor(), p.Writes()-writes)
		}
		if got, _ := readDisk(t, p, v); !slices.EqualFunc(mustDump(t, got), mustDump(t, ahead), func(a, b api.Node) bool { return a == b }) {
			t.Fatalf("what was committed ahead: %v; want %v", mustDump(t, got), mustDump(t, ahead))
		}
		// Of the new work a block, the table, the inode and the grid wait.
		before := p.Copy()
		want(t, "Sync", f.Sync(), api.OK)
		if l := changed(p, before, 100); len(l) != 4 {
			t.Fatalf("behind it %v were written", l)
		}
		leftAndMounted(t, p, v, f, x)
	})
}

// 'Words': blocks that nobody has any more do not wait: there is room for others, and they are not written.
func TestFreedDoNotWait(t *testing.T) {
	onVaults(t, func(t *testing.T, v *vault.Vault) {
		p, f := made(t, v, 100)
		x := newPlain(100)
		run(t, f, x, []act{{call: "create", s: "/a"}, {call: "open", s: "/a"}})
		was, start := f.Anchor(), p.Copy()
		for range 5 {
			for index := range 19 {
				run(t, f, x, []act{{call: "write", at: index * 448, s: filled(index, 448)}})
			}
			run(t, f, x, []act{{call: "trunc", n: 448}})
		}
		run(t, f, x, []act{{call: "close"}, {call: "create", s: "/b"}, {call: "remove", s: "/a"}})
		if f.Anchor() != was {
			t.Fatalf("committed: %v", f.Anchor())
		}
		want(t, "Sync", f.Sync(), api.OK)
		// The grids, both inodes, the root's block; of the data nothing.
		if l := changed(p, start, 100); !slices.Equal(l, []int{28, 31, 32, rootOf(100)}) && !slices.Equal(l, []int{27, 28, 31, 32, rootOf(100)}) {
			t.Fatalf("written were %v", l)
		}
		leftAndMounted(t, p, v, f, x)
	})
}

// 'Words': what goes makes room for what comes, in one call, too: no more than 24 blocks wait behind it, and nothing is committed.
func TestFreedMakeRoom(t *testing.T) {
	v := vault.Ideal()
	p, f := made(t, v, 100)
	x := newPlain(100)
	run(t, f, x, []act{{call: "mkdir", s: "/d"}, {call: "create", s: "/d/a"}, {call: "sync"}, {call: "open", s: "/d/a"}})
	was := f.Anchor()
	for index := range 21 {
		run(t, f, x, []act{{call: "write", at: index * 448, s: "x"}})
	}
	run(t, f, x, []act{{call: "close"}, {call: "remove", s: "/d/a"}})
	if f.Anchor() != was {
		t.Fatalf("committed: %v", f.Anchor())
	}
	wantCommit(t, "what goes", p, v, f, 1, 27, 28, 32, dataOf(100))
}

// 13.8: a power that fails in a Sync or a Leave; and in a call that commits ahead.
func TestSyncCut(t *testing.T) {
	onVaults(t, func(t *testing.T, v *vault.Vault) {
		start := newDevice(t, sectorsOf(48))
		mustMake(t, start, v)
		for _, leave := range []bool{false, true} {
			for fuse := range 16*3 + 17 {
				p := start.Copy()
				f := mustMount(t, p, v)
				want(t, "Create", f.Create("/a"), api.OK)
				was := f.Anchor()
				p.Arm(fuse)
				call, must := f.Sync, api.ErrPower
				if leave {
					call = f.Leave
				}
				if fuse >= 16*3+16 {
					must = api.OK
				}
				want(t, "cut off", call(), must)
				if must == api.OK {
					if f.Anchor().Epoch != was.Epoch+1 {
						t.Fatalf("Anchor: %v", f.Anchor())
					}
					continue
				}
				wantDead(t, "cut off", f, api.ErrState)
				if f.Anchor() != was {
					t.Fatalf("Anchor behind a Sync that was cut off: %v; was %v", f.Anchor(), was)
				}
				p.Start(nil)
				wantDead(t, "the power came again", f, api.ErrState)
			}
		}
	})
}
