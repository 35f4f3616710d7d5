package vfs_test

import (
	"math"
	"math/rand"
	"reflect"
	"testing"

	"grapnel/api"
	"grapnel/plate"
	"grapnel/vault"
	"grapnel/vfs"
)

// emptyBlocks is what an empty file system has from the grids on and below the data, head and body.
func emptyBlocks(live, volume int) ([]api.Head, []string) {
	var heads []api.Head
	var bodies []string
	add := func(kind, ino, gen, index int, body string) {
		heads = append(heads, api.Head{Volume: volume, Address: 27 + len(heads), Kind: kind, Ino: ino, Gen: gen, Index: index, Version: 1 + len(heads)})
		bodies = append(bodies, body)
	}
	add(3, 0, 0, 0, gridText(upTo(0, dataOf(live))))
	add(4, 0, 0, 0, gridText([]int{0, 1}))
	lost := (live/8 + 15) / 16
	for ino := 1; ino <= live/8; ino++ {
		switch ino {
		case 1:
			add(5, 1, 1, 0, inodeText(api.Inode{Kind: 2, Links: 1, Size: 448, Parent: 1, Direct: [12]int{rootOf(live)}}))
		case 2:
			i := api.Inode{Kind: 2, Links: 1, Size: 448 * lost, Parent: 1}
			copy(i.Direct[:], upTo(lostOf(live), lost))
			add(5, 2, 1, 0, inodeText(i))
		default:
			add(5, ino, 0, 0, blank(448))
		}
	}
	for i := range lost {
		add(6, 2, 1, i, blank(448))
	}
	add(6, 1, 1, 0, pageText([]api.Entry{{Name: "lost+found", Ino: 2, Gen: 1}}))
	return heads, bodies
}

// wantEmpty holds a device against an empty file system, block by block.
func wantEmpty(t *testing.T, p *plate.Plate, v *vault.Vault, live, volume int) {
	t.Helper()
	heads, bodies := emptyBlocks(live, volume)
	for i, must := range heads {
		h, body := opened(t, p, v, 27+i)
		if h != must || body != bodies[i] {
			t.Fatalf("Live %d, the block %d: %+v, %x; want %+v, %x", live, 27+i, h, body, must, bodies[i])
		}
	}
	x, s := readDisk(t, p, v)
	if s.Volume != volume || s.Epoch != 0 || s.Next != 1+len(heads) || s.Live != live {
		t.Fatalf("the superblock: %+v", s)
	}
	if !reflect.DeepEqual(x.told(), newPlain(live).told()) {
		t.Fatalf("Live %d: %v", live, mustDump(t, x))
	}
	if p.Pending() != 0 {
		t.Fatalf("%d writes wait", p.Pending())
	}
}

// 13.1: an empty file system on devices of every size.
func TestMake(t *testing.T) {
	t.Parallel()
	onVaults(t, func(t *testing.T, v *vault.Vault) {
		for live := 48; live <= 1024; live++ {
			if live > 150 && live < 1020 && live%97 > 0 {
				continue
			}
			p := rubbish(t, live)
			was := p.Copy()
			mustMake(t, p, v)
			wantEmpty(t, p, v, live, 7)
			// The journal's records, the data and what is behind the living part are not touched.
			for i := range p.Sectors() {
				at := i / 8
				if at >= 3 && at < 27 || at >= dataOf(live) {
					a, _ := p.Held(i)
					b, _ := was.Held(i)
					if a != b {
						t.Fatalf("Live %d: the sector %d was written", live, i)
					}
				}
			}
			f := mustMount(t, p, v)
			alike(t, "an empty file system", f, newPlain(live))
			if f.Room() != live-dataOf(live) {
				t.Fatalf("Live %d: Room %d", live, f.Room())
			}
		}
	})
}

// 13.1: each size of the living part has room for what it must.
func TestMakeEachSize(t *testing.T) {
	t.Parallel()
	v := vault.Ideal()
	for live := 48; live <= 1024; live++ {
		p := newDevice(t, sectorsOf(live))
		mustMake(t, p, v)
		if f := mustMount(t, p, v); f.Room() != live-dataOf(live) {
			t.Fatalf("Live %d: Room %d", live, f.Room())
		}
	}
}

// 13.1: volumes at their bounds.
func TestMakeVolumes(t *testing.T) {
	onVaults(t, func(t *testing.T, v *vault.Vault) {
		for _, volume := range []int{0, 1, 7, 1<<32 + 5, 1<<48 - 1} {
			p := newDevice(t, sectorsOf(48))
			want(t, "Make", vfs.Make(p, v, volume), api.OK)
			wantEmpty(t, p, v, 48, volume)
			f := mustMount(t, p, v)
			want(t, "Create", f.Create("/a"), api.OK)
			want(t, "Sync", f.Sync(), api.OK)
			// What is committed is of the same volume.
			if _, s := readDisk(t, p, v); s.Volume != volume {
				t.Fatalf("the volume %d; want %d", s.Volume, volume)
			}
		}
	})
}

// 13.1: devices that have no living part: around the least, the greatest, and each size between.
func TestMakeNoLive(t *testing.T) {
	v := vault.Ideal()
	sizes := []int{0, 1, 8, 783, 785, 98*8 + 8, 32768, sectorsOf(47), sectorsOf(1025), sectorsOf(1024) - 1, sectorsOf(1024) + 1, sectorsOf(1024) + 8, sectorsOf(64) + 1, sectorsOf(65) - 8, 48 * 8}
	for _, n := range sizes {
		for _, volume := range []int{7, -1, 1 << 48} {
			for _, v := range append(notGiven(), v) {
				p := newDevice(t, n)
				want(t, "Make", vfs.Make(p, v, volume), api.ErrSuper)
				if p.Writes() != 0 {
					t.Fatalf("%d sectors: %d writes", n, p.Writes())
				}
				if n > 0 {
					want(t, "Make, off", vfs.Make(cut(p), v, volume), api.ErrPower)
				}
			}
		}
	}
}

// 13.1, R2: wrong volumes and vaults, of a device that is there, off, and none; nothing is changed.
func TestMakeRefused(t *testing.T) {
	for _, volume := range []int{-1, 1 << 48, 1<<48 + 7, math.MinInt, math.MaxInt, 7, 0, 1<<48 - 1} {
		for _, v := range append(notGiven(), vault.Ideal()) {
			want(t, "Make without a device", vfs.Make(nil, v, volume), api.ErrPower)
			want(t, "Make of a device that none made", vfs.Make(&plate.Plate{}, v, volume), api.ErrPower)
			p := cut(rubbish(t, 48))
			want(t, "Make, off", vfs.Make(p, v, volume), api.ErrPower)
			p.Start(nil)
			if volume < 0 || volume >= 1<<48 || v == nil || *v == (vault.Vault{}) {
				want(t, "Make of what may not be", vfs.Make(p, v, volume), api.ErrArg)
			}
			wantSectors(t, "a Make that was refused", p, rubbish(t, 48))
			wantUnnumbered(t, "a Make that was refused", v)
		}
	}
}

// 13.1: the power failing at each write. A Make that is made again is whole, whatever was kept.
func TestMakeEachWrite(t *testing.T) {
	t.Parallel()
	onVaults(t, func(t *testing.T, v *vault.Vault) {
		r := rand.New(rand.NewSource(1))
		older, f := made(t, v, 48)
		fill(t, f)
		want(t, "Leave", f.Leave(), api.OK)
		for name, start := range map[string]*plate.Plate{"rubbish": rubbish(t, 48), "another file system": older} {
			writes := 8*(dataOf(48)-27) + 24
			for fuse := range writes + 2 {
				p := start.Copy()
				p.Arm(fuse)
				e := vfs.Make(p, v, 7)
				if fuse >= writes {
					want(t, name, e, api.OK)
					wantEmpty(t, p, v, 48, 7)
					continue
				}
				want(t, name, e, api.ErrPower)
				if p.Up() || p.Writes()-start.Writes() != fuse {
					t.Fatalf("%s: %d writes of %d; power %t", name, p.Writes()-start.Writes(), fuse, p.Up())
				}
				for _, keep := range keeps(p.Pending(), r) {
					q := p.Copy()
					q.Start(keep)
					// What is mounted then is one of both, or damage is told.
					if f, e := vfs.Mount(q.Copy(), v, noAnchor); e == api.OK {
						if l, e := f.Dump(); e != api.ErrDamage && len(l) != 2 && !(name == "another file system" && len(l) == 7) {
							t.Fatalf("behind %d writes: %v, error %d", fuse, l, e)
						}
					}
					mustMake(t, q, v)
					wantEmpty(t, q, v, 48, 7)
				}
			}
		}
	})
}

// fill makes some files and directories, five in all.
func fill(t *testing.T, f *vfs.FS) {
	t.Helper()
	for _, a := range []act{{call: "mkdir", s: "/d"}, {call: "create", s: "/d/x"}, {call: "link", s: "/d/x", to: "/y"}, {call: "symlink", s: "/l", to: "/d"}, {call: "create", s: "/l/z"}, {call: "open", s: "/y"}, {call: "write", at: 447, s: filled(1, 900)}, {call: "close"}} {
		want(t, a.call+" "+a.s, do(f, a).e, api.OK)
	}
}

// 13.1: an older file system's superblocks and promise do not come back.
func TestMakeAnew(t *testing.T) {
	onVaults(t, func(t *testing.T, v *vault.Vault) {
		for syncs := range 5 {
			p, f := made(t, v, 64)
			for i := range syncs {
				want(t, "Create", f.Create("/"+letter(i)), api.OK)
				want(t, "Sync", f.Sync(), api.OK)
			}
			mustMake(t, p, v)
			wantEmpty(t, p, v, 64, 7)
			f = mustMount(t, p, v)
			alike(t, "made anew", f, newPlain(64))
			if f.Anchor().Epoch != 1 {
				t.Fatalf("the Epoch is %d", f.Anchor().Epoch)
			}
		}
	})
}

// letter is a name, another one for each number.
func letter(i int) string { return string(rune('a' + i)) }

// wantSectors holds what is kept of two devices against each other.
func wantSectors(t *testing.T, what string, got, must *plate.Plate) {
	t.Helper()
	for i := range must.Sectors() {
		a, e := got.Held(i)
		b, f := must.Held(i)
		if a != b || e != f {
			t.Fatalf("%s: the sector %d holds %q, error %d; want %q, error %d", what, i, a, e, b, f)
		}
	}
}

// wantUnnumbered tells whether an ideal vault that was given has numbered nothing.
func wantUnnumbered(t *testing.T, what string, v *vault.Vault) {
	t.Helper()
	if v == nil || *v == (vault.Vault{}) {
		return
	}
	s, _ := vault.Ideal().Seal(9, blank(12), "never sealed", "")
	if got, _ := v.Seal(9, blank(12), "never sealed", ""); got != s || v.Hash("never hashed") != number(1, 32) {
		t.Fatalf("%s: the vault numbered something", what)
	}
}
