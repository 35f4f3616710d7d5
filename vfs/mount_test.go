package vfs_test

import (
	"math"
	"slices"
	"strings"
	"testing"

	"grapnel/api"
	"grapnel/grid"
	"grapnel/plate"
	"grapnel/vault"
	"grapnel/vfs"
)

// begun is a device with some files, left in the Epoch 2.
func begun(t *testing.T, v *vault.Vault, live int) (*plate.Plate, api.Anchor) {
	t.Helper()
	p, f := made(t, v, live)
	fill(t, f)
	want(t, "Leave", f.Leave(), api.OK)
	return p, f.Anchor()
}

// crown lays a superblock with an Epoch 1 greater, as it may be changed, in its slot.
func crown(t *testing.T, p *plate.Plate, v *vault.Vault, change func(s *api.Super)) api.Super {
	t.Helper()
	s, ok := superOn(p, v)
	if !ok {
		t.Fatal("there is no superblock")
	}
	s.Epoch++
	change(&s)
	h := api.Head{Volume: s.Volume, Address: s.Epoch % 2, Kind: 1, Version: s.Epoch, Salt: s.Epoch}
	layAt(p, h.Address, sealed(t, v, h, superText(s)))
	return s
}

// forge lays blocks that are sealed for their places, and a superblock whose root is over them and all that is used besides.
func forge(t *testing.T, p *plate.Plate, v *vault.Vault, blocks map[int]piece) {
	t.Helper()
	s, _ := superOn(p, v)
	for _, at := range slices.Sorted(keysOf(blocks)) {
		x := blocks[at]
		h := api.Head{Volume: s.Volume, Address: at, Kind: x.kind, Ino: x.ino, Gen: x.gen, Index: x.index, Version: 1 << 40, Salt: 1}
		layAt(p, at, sealed(t, v, h, x.body))
	}
	_, body := opened(t, p, v, 27)
	crown(t, p, v, func(s *api.Super) { s.Root = rootOver(v, tagsOn(p, s.Live, body)) })
}

// piece is a block that is forged.
type piece struct {
	kind, ino, gen, index int
	body                  string
}

func keysOf[V any](m map[int]V) func(func(int) bool) {
	return func(yield func(int) bool) {
		for k := range m {
			if !yield(k) {
				return
			}
		}
	}
}

// tagsOn is the tags of what a grid's body says is used.
func tagsOn(p *plate.Plate, live int, body string) []string {
	var tags []string
	for at := range live {
		tag := blank(16)
		if at >= 27 && body[at/8]>>(at%8)&1 == 1 {
			tag = rawAt(p, at)[496:]
		}
		tags = append(tags, tag)
	}
	return tags
}

func wantNoMount(t *testing.T, what string, p *plate.Plate, v *vault.Vault, known api.Anchor, must api.Errno) {
	t.Helper()
	was := p.Copy()
	f, e := vfs.Mount(p, v, known)
	if f != nil || e != must {
		t.Fatalf("%s: Mount: %v, error %d; want %d", what, f, e, must)
	}
	if must != api.ErrPower {
		wantSectors(t, what, p, was)
	}
}

// 13.2: a superblock with an Epoch 1 greater is written, and nothing else.
func TestMount(t *testing.T) {
	onVaults(t, func(t *testing.T, v *vault.Vault) {
		p, known := begun(t, v, 48)
		for i := range 5 {
			was := p.Copy()
			s, _ := superOn(p, v)
			f := mustMount(t, p, v)
			if a := f.Anchor(); a != (api.Anchor{Epoch: known.Epoch + 1 + i, Root: known.Root}) {
				t.Fatalf("Anchor: %v; the last one %v", a, known)
			}
			if p.Writes() != was.Writes()+8 || p.Pending() != 0 {
				t.Fatalf("%d writes, %d wait", p.Writes()-was.Writes(), p.Pending())
			}
			s.Epoch++
			h := api.Head{Volume: 7, Address: s.Epoch % 2, Kind: 1, Version: s.Epoch, Salt: s.Epoch}
			if raw := sealed(t, v, h, superText(s)); rawAt(p, h.Address) != raw {
				t.Fatalf("the superblock: %x; want %x", rawAt(p, h.Address), raw)
			}
			layAt(was, h.Address, rawAt(p, h.Address))
			wantSectors(t, "Mount", p, was)
		}
	})
}

// 13.2: anchors that are older, the same, the same with another root, and later.
func TestMountAnchors(t *testing.T) {
	onVaults(t, func(t *testing.T, v *vault.Vault) {
		p, known := begun(t, v, 48)
		other := strings.Repeat("r", 32)
		for _, root := range []string{known.Root, other, "", blank(32), known.Root + "x", known.Root[:31]} {
			for _, epoch := range []int{-1, -2, math.MinInt, 0, 1} {
				if f, e := vfs.Mount(p.Copy(), v, api.Anchor{Epoch: epoch, Root: root}); f == nil || e != api.OK {
					t.Fatalf("Mount with %d: error %d", epoch, e)
				}
			}
			same := api.Anchor{Epoch: known.Epoch, Root: root}
			if root == known.Root {
				if f, e := vfs.Mount(p.Copy(), v, same); f == nil || e != api.OK {
					t.Fatalf("Mount with the same: error %d", e)
				}
			} else {
				wantNoMount(t, "another root", p, v, same, api.ErrAnchor)
			}
			for _, epoch := range []int{known.Epoch + 1, known.Epoch + 2, 99, 1 << 48, math.MaxInt} {
				wantNoMount(t, "a later one", p, v, api.Anchor{Epoch: epoch, Root: root}, api.ErrAnchor)
			}
		}
	})
}

// 13.2: the first Epoch is one that may be known, too.
func TestMountFirstAnchor(t *testing.T) {
	v := vault.Ideal()
	p := newDevice(t, sectorsOf(48))
	mustMake(t, p, v)
	s, _ := superOn(p, v)
	wantNoMount(t, "another root", p, v, api.Anchor{}, api.ErrAnchor)
	wantNoMount(t, "another root", p, v, api.Anchor{Root: blank(32)}, api.ErrAnchor)
	if _, e := vfs.Mount(p, v, api.Anchor{Root: s.Root}); e != api.OK {
		t.Fatalf("Mount with the same: error %d", e)
	}
}

// G4: who knows a later anchor mounts no earlier image.
func TestMountEarlier(t *testing.T) {
	onVaults(t, func(t *testing.T, v *vault.Vault) {
		p, f := made(t, v, 48)
		var images []*plate.Plate
		var anchors []api.Anchor
		for i := range 6 {
			images = append(images, p.Copy())
			anchors = append(anchors, f.Anchor())
			want(t, "Create", f.Create("/"+letter(i)), []api.Errno{api.OK, api.OK, api.OK, api.OK, api.ErrInodes, api.ErrInodes}[i])
			want(t, "Sync", f.Sync(), api.OK)
		}
		for i, image := range images {
			for k, a := range anchors {
				must := api.OK
				if a.Epoch > anchors[i].Epoch {
					must = api.ErrAnchor
				}
				if _, e := vfs.Mount(image.Copy(), v, a); e != must {
					t.Fatalf("the image %d with the anchor %d: error %d; want %d", i, k, e, must)
				}
			}
		}
	})
}

// 13.2: grids that are damaged in each sector, that are of another kind, or no grids.
func TestMountGrids(t *testing.T) {
	onVaults(t, func(t *testing.T, v *vault.Vault) {
		p, known := begun(t, v, 48)
		for _, at := range []int{27, 28} {
			for i := range 8 {
				spoilt, laid := p.Copy(), p.Copy()
				spoilt.Spoil(8*at + i)
				laid.Lay(8*at+i, filled(at, 64))
				for _, q := range []*plate.Plate{spoilt, laid} {
					wantNoMount(t, "a grid that is damaged", q, v, known, api.ErrDamage)
					// An anchor that speaks against it is told ahead.
					wantNoMount(t, "a later anchor", q, v, api.Anchor{Epoch: 50}, api.ErrAnchor)
				}
			}
		}
		_, blocks := opened(t, p, v, 27)
		_, nodes := opened(t, p, v, 28)
		for name, x := range map[string]map[int]piece{
			"blocks of another kind": {27: {kind: 4, body: blocks}}, "inodes of another kind": {28: {kind: 3, body: nodes}}, "of the kind 0": {27: {body: blocks}},
			"a bit from Live on": {27: {kind: 3, body: set(blocks, 48)}}, "the last bit": {27: {kind: 3, body: set(blocks, 3583)}},
			"a bit from Inodes on": {28: {kind: 4, body: set(nodes, 6)}}, "the last bit of these": {28: {kind: 4, body: set(nodes, 3583)}},
		} {
			q := p.Copy()
			forge(t, q, v, x)
			wantNoMount(t, name, q, v, noAnchor, api.ErrDamage)
			crown(t, q, v, func(s *api.Super) { s.Root = blank(32) })
			wantNoMount(t, name+", another root", q, v, noAnchor, api.ErrDamage)
		}
		// Sealed anew as they are they do.
		q := p.Copy()
		forge(t, q, v, map[int]piece{27: {kind: 3, body: blocks}, 28: {kind: 4, body: nodes}})
		mustMount(t, q, v)
	})
}

// set is a grid's body with another bit.
func set(body string, i int) string {
	b := []byte(body)
	b[i/8] |= 1 << (i % 8)
	return string(b)
}

// 13.2: a root that is another one: of the superblock, or since the tag of a block that is used is another one. What is not used, and all but the tags, does not count.
func TestMountRoot(t *testing.T) {
	onVaults(t, func(t *testing.T, v *vault.Vault) {
		p, known := begun(t, v, 48)
		x, s := readDisk(t, p, v)
		q := p.Copy()
		crown(t, q, v, func(s *api.Super) { s.Root = s.Root[:31] + "x" })
		wantNoMount(t, "a superblock with another root", q, v, known, api.ErrRoot)
		for at := range 98 {
			body := at >= 27 && at < 48 && at < s.Live-x.Room()
			for i, must := range []api.Errno{api.OK, api.ErrRoot} {
				q := p.Copy()
				q.Lay(8*at+7*i, strings.Repeat("+", 64))
				if !body {
					must = api.OK
				}
				if at == 27 || at == 28 {
					must = api.ErrDamage
				}
				if f, e := vfs.Mount(q, v, noAnchor); e != must || (f != nil) != (must == api.OK) {
					t.Fatalf("the block %d overwritten in the sector %d: error %d; want %d", at, 7*i, e, must)
				}
			}
		}
	})
}

// 13.2: journal.Recover's errors, and journal.Anew's.
func TestMountErrors(t *testing.T) {
	onVaults(t, func(t *testing.T, v *vault.Vault) {
		p, known := begun(t, v, 48)
		later := api.Anchor{Epoch: 99}
		wantNoMount(t, "no device", nil, v, known, api.ErrPower)
		wantNoMount(t, "off", cut(p.Copy()), v, later, api.ErrPower)
		wantNoMount(t, "never made", newDevice(t, 784), v, later, api.ErrSuper)
		wantNoMount(t, "no living part", newDevice(t, 785), v, later, api.ErrSuper)
		for _, other := range append(notGiven(), vault.Ideal()) {
			wantNoMount(t, "another vault", p, other, later, api.ErrSuper)
		}
		for fuse := range 8 {
			q := p.Copy()
			q.Arm(fuse)
			wantNoMount(t, "cut off", q, v, known, api.ErrPower)
			if q.Up() || q.Writes()-p.Writes() != fuse {
				t.Fatalf("cut off behind %d writes: %d", fuse, q.Writes()-p.Writes())
			}
		}
		q := p.Copy()
		crown(t, q, v, func(s *api.Super) { s.Epoch = 1<<48 - 2 })
		f := mustMount(t, q, v)
		want(t, "Remove", f.Remove("/d/z"), api.OK)
		// There is no room for another Epoch: nothing is changed.
		want(t, "Sync", f.Sync(), api.ErrRange)
		want(t, "Sync", f.Sync(), api.ErrRange)
		if _, e := f.Stat("/d/z"); e != api.ErrNone {
			t.Fatalf("Stat: error %d", e)
		}
		wantNoMount(t, "the last Epoch", q, v, noAnchor, api.ErrRange)
	})
}

// 13.2: a commit that was promised is done ahead.
func TestMountRecovers(t *testing.T) {
	onVaults(t, func(t *testing.T, v *vault.Vault) {
		p, f := made(t, v, 48)
		want(t, "Create", f.Create("/a"), api.OK)
		was := f.Anchor()
		p.Arm(8*3 + 8)
		want(t, "Sync", f.Sync(), api.ErrPower)
		if f.Anchor() != was {
			t.Fatalf("Anchor behind a Sync that was cut off: %v", f.Anchor())
		}
		p.Start(nil)
		g, e := vfs.Mount(p, v, api.Anchor{Epoch: was.Epoch + 1, Root: ""})
		if g != nil || e != api.ErrAnchor {
			t.Fatalf("Mount with an anchor of the Epoch that was promised, of another root: error %d", e)
		}
		g, e = vfs.Mount(p, v, was)
		want(t, "Mount", e, api.OK)
		if l := mustDump(t, g); len(l) != 3 || g.Anchor().Epoch != was.Epoch+2 {
			t.Fatalf("behind a commit that was promised: %v, %v", g.Anchor(), l)
		}
	})
}

// 13.2: Leaves as the words say it.
func TestLeaves(t *testing.T) {
	raw := func(i int) string { return filled(i, 512) }
	im := api.Image{Masks: make([]int, 10)}
	for i := range 10 {
		im.Raws = append(im.Raws, raw(i))
	}
	im.Raws[5], im.Masks[6], im.Raws[8] = "short", 255, raw(8)+"x"
	for live := -2; live < 14; live++ {
		for first := -1; first < 12; first++ {
			for n := range 14 {
				used := make([]bool, n)
				for i := range used {
					used[i] = i%3 != 1
				}
				var must []string
				for at := range max(live, 0) {
					tag := blank(16)
					if at >= first && at < n && at%3 != 1 && at < 10 && at != 5 && at != 8 {
						tag = raw(at)[496:]
					}
					must = append(must, tag)
				}
				got := vfs.Leaves(api.Layout{Live: live, Blocks: first}, used, im)
				if !slices.Equal(got, must) {
					t.Fatalf("Leaves of %d from %d, %d said: %q; want %q", live, first, n, got, must)
				}
			}
		}
	}
	if l := vfs.Leaves(api.Layout{}, nil, api.Image{}); len(l) != 0 {
		t.Fatalf("Leaves of nothing: %q", l)
	}
	if l := vfs.Leaves(api.Layout{Live: math.MinInt}, nil, api.Image{}); len(l) != 0 {
		t.Fatalf("Leaves below 0: %q", l)
	}
	if l := vfs.Leaves(api.Layout{Live: 3}, []bool{true, true, true}, api.Image{Raws: im.Raws[:3], Masks: make([]int, 1)}); l[0] == blank(16) || l[1] != blank(16) {
		t.Fatalf("Leaves without Masks: %q", l)
	}
}

// 13.2: Used as the grid tells.
func TestUsed(t *testing.T) {
	for _, n := range []int{0, 1, 7, 8, 9, 48, 1024, 3584} {
		g, _ := grid.New(n)
		for i := range n {
			g.Put(i, i%5 == 2 || i == n-1)
		}
		used := vfs.Used(g)
		if len(used) != n {
			t.Fatalf("Used of %d: %d", n, len(used))
		}
		for i, u := range used {
			if u != (i%5 == 2 || i == n-1) {
				t.Fatalf("Used of %d: %d is %t", n, i, u)
			}
		}
	}
	if l := vfs.Used(nil); len(l) != 0 {
		t.Fatalf("Used of nil: %v", l)
	}
	if l := vfs.Used(&grid.Grid{}); len(l) != 0 {
		t.Fatalf("Used of a grid of nothing: %v", l)
	}
}

// R3: lists that are handed in stay as they are, also behind their end; what was told is the asker's own.
func TestLeavesOwn(t *testing.T) {
	im := api.Image{Raws: []string{filled(1, 512), filled(2, 512), filled(3, 512)}, Masks: []int{0, 1, 2}}
	used := []bool{true, true, false, true}
	raws, masks, was := slices.Clone(im.Raws), slices.Clone(im.Masks), slices.Clone(used)
	part := api.Image{Raws: im.Raws[:2], Masks: im.Masks[:2]}
	l := vfs.Leaves(api.Layout{Live: 4}, used[:2], part)
	other := vfs.Leaves(api.Layout{Live: 4}, used[:2], part)
	for i := range l {
		l[i] = "changed"
	}
	if !slices.Equal(im.Raws, raws) || !slices.Equal(im.Masks, masks) || !slices.Equal(used, was) || other[0] != raws[0][496:] {
		t.Fatalf("what was handed in: %v, %v, %v; told %q", im.Raws, im.Masks, used, other)
	}
	g, _ := grid.New(4)
	u := vfs.Used(g)
	u[2] = true
	if g.Has(2) || vfs.Used(g)[2] {
		t.Fatal("a list that was handed out is the grid's")
	}
}
