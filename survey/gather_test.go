package survey_test

import (
	"math"
	"math/rand"
	"slices"
	"strings"
	"testing"

	"grapnel/api"
	"grapnel/block"
	"grapnel/grid"
	"grapnel/journal"
	"grapnel/pack"
	"grapnel/survey"
	"grapnel/tree"
	"grapnel/vault"
	"grapnel/vfs"
)

// rootOf is the root over the tags of an image's blocks that are used.
func rootOf(t testing.TB, v *vault.Vault, im api.Image, live int, used []int) string {
	t.Helper()
	tags := make([]string, live)
	for at := range tags {
		tags[at] = blank(16)
		if raw, _ := block.At(im, at); at >= 27 && slices.Contains(used, at) {
			tags[at] = raw[496:]
		}
	}
	return tree.New(v, tags).Root()
}

func superBlock(t testing.TB, v *vault.Vault, s api.Super) api.Write {
	t.Helper()
	w, e := journal.Super(v, s)
	want(t, "journal.Super", e, api.OK)
	return w
}

// sealed is a block for an address.
func sealed(t testing.TB, v *vault.Vault, h api.Head, body string) api.Write {
	t.Helper()
	raw, e := block.Seal(v, h, body)
	want(t, "block.Seal", e, api.OK)
	return api.Write{Address: h.Address, Raw: raw}
}

// promising is an image with a promise of blocks and a superblock, whose blocks stand in the journal alone.
func promising(t testing.TB, v *vault.Vault, im api.Image, ws []api.Write, next api.Super) api.Image {
	t.Helper()
	super, e := pack.Super(next)
	want(t, "pack.Super", e, api.OK)
	count, _ := pack.Put(len(ws), 2)
	raws := ""
	l := []api.Write{}
	for i, w := range ws {
		raws += w.Raw
		l = append(l, api.Write{Address: 3 + i, Raw: w.Raw})
	}
	body, e := pack.Pad(count+v.Hash(raws)+super[:54], 448)
	want(t, "pack.Pad", e, api.OK)
	h := api.Head{Volume: next.Volume, Address: 2, Kind: 2, Version: next.Epoch, Salt: next.Epoch}
	return survey.Over(im, append(l, sealed(t, v, h, body)))
}

// evidence is that of an image, by 'Words'.
func evidence(t testing.TB, v *vault.Vault, live int, im api.Image) api.Evidence {
	t.Helper()
	l := layoutOf(t, live)
	x := api.Evidence{Live: live, Readings: make([]api.Reading, live)}
	raws := make([]string, live)
	for at := range raws {
		raws[at], _ = block.At(im, at)
		if at >= 27 {
			x.Readings[at] = block.Look(v, im, at)
		}
	}
	slot, inSlot := journal.Choose([]api.Reading{block.Look(v, im, 0), block.Look(v, im, 1)}, live)
	ws, next, kept := journal.Found(v, l, im)
	switch {
	case inSlot && (!kept || slot.Epoch >= next.Epoch):
		x.Super, x.Has, x.Kept = slot, true, true
	case kept:
		x.Super, x.Has = next, true
	}
	for _, w := range ws {
		r := block.Told(v, w.Raw, w.Address)
		if was := x.Readings[w.Address]; r.Ok && !was.Ok || r.Ok && was.Head.Version < r.Head.Version {
			x.Readings[w.Address], raws[w.Address] = r, w.Raw
			x.Stale = append(x.Stale, w.Address)
		}
	}
	r := x.Readings[27]
	g, e := grid.Of(r.Body, live)
	if x.Has && r.Ok && r.Head.Kind == 3 && e == api.OK {
		var used []int
		for at := range live {
			if g.Has(at) {
				used = append(used, at)
			}
		}
		x.Rooted = rootOf(t, v, api.Image{Raws: raws, Masks: make([]int, live)}, live, used) == x.Super.Root
	}
	return x
}

// wantEvidence holds what Gather tells against 'Words'.
func wantEvidence(t testing.TB, what string, v *vault.Vault, live int, im api.Image) api.Evidence {
	t.Helper()
	x, must := gathered(t, v, live, im), evidence(t, v, live, im)
	same(t, what+": Stale", x.Stale, must.Stale)
	x.Stale, must.Stale = nil, nil
	same(t, what, x, must)
	return gathered(t, v, live, im)
}

// 14.1: living parts of every size around the bounds.
func TestGatherLives(t *testing.T) {
	t.Parallel()
	for _, live := range []int{47, 46, 0, -1, -48, 1025, 1026, 98, 784, 2048, math.MinInt, math.MaxInt} {
		v := vault.Ideal()
		im := block.All(made(t, v, 48))
		if x, e := survey.Gather(v, live, im); live != 98 && live != 784 && (e != api.ErrArg || len(x.Readings) != 0 || len(x.Stale) != 0 || x.Live != 0 || x.Has || x.Kept || x.Rooted || x.Super != (api.Super{})) {
			t.Fatalf("Gather of %d blocks: %s, error %d", live, brief(x), e)
		}
		// An image's size is another matter.
		if live == 98 || live == 784 {
			if x := wantEvidence(t, "a lesser image", v, live, im); x.Has || len(x.Readings) != live {
				t.Fatalf("Gather of %d blocks: %s", live, brief(x))
			}
		}
	}
	lives := slices.Concat(upTo(48, 90), []int{160, 255, 256, 257, 300, 511, 512, 640, 777}, upTo(1016, 9))
	for _, live := range lives {
		v := vault.Ideal()
		p := made(t, v, live)
		x := wantEvidence(t, "an empty file system", v, live, block.All(p))
		if !x.Has || !x.Kept || !x.Rooted || len(x.Stale) != 0 || len(x.Readings) != live || x.Live != live {
			t.Fatalf("an empty file system of %d blocks: %s", live, brief(x))
		}
		c := judged(t, "an empty file system", x)
		l := layoutOf(t, live)
		if c.Authentic != l.Data-27 || len(c.Findings) != 0 || len(c.Wants) != 0 || !slices.Equal(c.Used, upTo(0, l.Data)) {
			t.Fatalf("an empty file system of %d blocks: %s", live, brief(c))
		}
	}
}

// 14.1: readings are told from the grids on; those below are zero.
func TestGatherReadings(t *testing.T) {
	onVaults(t, func(t *testing.T, v *vault.Vault) {
		p, _ := stored(t, v)
		im := block.All(p)
		x := wantEvidence(t, "stored", v, 160, im)
		for at, r := range x.Readings {
			if at < 27 && r != (api.Reading{}) || at >= 27 && r != block.Told(v, im.Raws[at], at) {
				t.Fatalf("the reading at %d: %s", at, brief(r))
			}
		}
		for at := range 3 {
			if r := block.Told(v, im.Raws[at], at); !r.Ok {
				t.Fatalf("nothing stands at %d: this test tells nothing", at)
			}
		}
	})
}

// 14.1: no superblock, one, and two; the greater Epoch counts.
func TestGatherSuper(t *testing.T) {
	onVaults(t, func(t *testing.T, v *vault.Vault) {
		p := made(t, v, 48)
		f := mounted(t, p, v)
		want(t, "Leave", f.Leave(), api.OK)
		im := block.All(p)
		x := wantEvidence(t, "two superblocks", v, 48, im)
		if x.Super.Epoch != 1 || !x.Has || !x.Kept || !x.Rooted {
			t.Fatalf("two superblocks: %+v", x.Super)
		}
		for mask := range 4 {
			for _, dumb := range []bool{true, false} {
				q := p.Copy()
				for slot := range 2 {
					if mask>>slot&1 == 1 && dumb {
						q.Spoil(8*slot + 3)
					} else if mask>>slot&1 == 1 {
						q.Lay(8*slot+3, strings.Repeat("#", 64))
					}
				}
				x := wantEvidence(t, "superblocks lost", v, 48, block.All(q))
				epoch, has := []int{1, 1, 0, 0}[mask], mask < 3
				if x.Has != has || x.Kept != has || x.Rooted != has || x.Super.Epoch != epoch {
					t.Fatalf("superblocks lost (%d): %+v, %v %v %v", mask, x.Super, x.Has, x.Kept, x.Rooted)
				}
				c := judged(t, "superblocks lost", x)
				if must := []api.Finding{{Code: 1}}; mask == 3 && !slices.Equal(c.Findings, must) || mask < 3 && len(c.Findings) != 0 {
					t.Fatalf("superblocks lost (%d): findings %v", mask, c.Findings)
				}
			}
		}
	})
}

// 14.1: a promise that is kept, of each Epoch beside the slots' ones.
func TestGatherPromisedSuper(t *testing.T) {
	onVaults(t, func(t *testing.T, v *vault.Vault) {
		p := made(t, v, 48)
		for range 4 {
			want(t, "Leave", mounted(t, p, v).Leave(), api.OK)
		}
		im := block.All(p)
		slot := wantEvidence(t, "no promise", v, 48, im).Super
		if slot.Epoch != 4 {
			t.Fatalf("the Epoch is %d", slot.Epoch)
		}
		bare := survey.Over(im, []api.Write{{Address: 0, Raw: blank(512)}, {Address: 1, Raw: blank(512)}})
		for epoch := range 9 {
			next := api.Super{Volume: 9, Epoch: epoch, Next: 77, Live: 48, Root: slot.Root}
			x := wantEvidence(t, "a promise", v, 48, promising(t, v, im, nil, next))
			must := slot
			if epoch > 4 {
				must = next
			}
			if x.Super != must || !x.Has || x.Kept != (epoch <= 4) || !x.Rooted {
				t.Fatalf("a promise of the Epoch %d: %+v, kept %v", epoch, x.Super, x.Kept)
			}
			x = wantEvidence(t, "a promise alone", v, 48, promising(t, v, bare, nil, next))
			if x.Super != next || !x.Has || x.Kept || !x.Rooted {
				t.Fatalf("a promise of the Epoch %d alone: %+v, kept %v", epoch, x.Super, x.Kept)
			}
			// One that is not kept says nothing.
			broken := promising(t, v, bare, nil, next)
			broken.Masks[2] = 4
			if x := wantEvidence(t, "a promise that is not kept", v, 48, broken); x.Has || x.Rooted || x.Super != (api.Super{}) {
				t.Fatalf("a promise that is not kept: %+v", x.Super)
			}
			// Nor one of another living part.
			next.Live = 49
			if x := wantEvidence(t, "a promise of another Live", v, 48, promising(t, v, bare, nil, next)); x.Has {
				t.Fatalf("a promise of another Live: %+v", x.Super)
			}
		}
	})
}

// 14.1: a promise's blocks: those stand already, stand not, stand in a lesser, the same or a greater Version, or are not authentic.
func TestGatherPromisedBlocks(t *testing.T) {
	onVaults(t, func(t *testing.T, v *vault.Vault) {
		im := block.All(made(t, v, 64))
		slot := wantEvidence(t, "no promise", v, 64, im).Super
		head := func(at, version int) api.Head {
			return api.Head{Volume: 7, Address: at, Kind: 7, Ino: 3, Gen: 1, Index: at, Version: version, Salt: 5}
		}
		stands := survey.Over(im, []api.Write{sealed(t, v, head(50, 8), filled(1, 448)), sealed(t, v, head(51, 9), filled(1, 448)), sealed(t, v, head(52, 10), filled(1, 448))})
		stands.Masks[55] = 1
		ws := []api.Write{
			{Address: 27, Raw: im.Raws[27]},
			sealed(t, v, head(50, 9), filled(2, 448)),
			sealed(t, v, head(51, 9), filled(2, 448)),
			sealed(t, v, head(52, 9), filled(2, 448)),
			sealed(t, v, head(53, 9), filled(2, 448)),
			{Address: 54, Raw: sealed(t, v, head(54, 9), filled(2, 448)).Raw[:511] + "x"},
			sealed(t, v, head(55, 0), filled(2, 448)),
			sealed(t, v, head(63, 9), filled(2, 448)),
		}
		for epoch := range 3 {
			next := slot
			next.Epoch = epoch
			x := wantEvidence(t, "a promise's blocks", v, 64, promising(t, v, stands, ws, next))
			same(t, "Stale", x.Stale, []int{50, 53, 55, 63})
			for at, body := range map[int]string{50: filled(2, 448), 51: filled(1, 448), 52: filled(1, 448), 53: filled(2, 448), 54: "", 55: filled(2, 448), 63: filled(2, 448)} {
				if r := x.Readings[at]; r.Body != body || r.Ok != (body != "") {
					t.Fatalf("the reading at %d: %s", at, brief(r))
				}
			}
			if !x.Rooted {
				t.Fatal("the root is another one, though none of these blocks is used")
			}
			// A record that can't be read, or is another one: the promise is not kept.
			for at := range 8 {
				broken := promising(t, v, stands, ws, next)
				broken.Masks[3+at] = 128
				if x := wantEvidence(t, "a record that can't be read", v, 64, broken); len(x.Stale) != 0 || x.Readings[53].Ok {
					t.Fatalf("a record that can't be read: Stale %v", x.Stale)
				}
			}
		}
	})
}

// 14.1: of the tags those count that the grid says are used, a promise's blocks in their places.
func TestGatherRooted(t *testing.T) {
	onVaults(t, func(t *testing.T, v *vault.Vault) {
		p, x := stored(t, v)
		im := block.All(p)
		l := layoutOf(t, 160)
		c := judged(t, "stored", x)
		ws, _, _ := journal.Found(v, l, im)
		var promised []int
		for _, w := range ws {
			promised = append(promised, w.Address)
		}
		if len(promised) == 0 || len(promised) > 10 {
			t.Fatalf("the journal has %v: this test tells little", promised)
		}
		for at := 27; at < 160; at++ {
			q := survey.Over(im, []api.Write{{Address: at, Raw: filled(at, 512)}})
			x := wantEvidence(t, "a block overwritten", v, 160, q)
			if must := !slices.Contains(c.Used, at) || slices.Contains(promised, at); x.Rooted != must {
				t.Fatalf("the block %d overwritten: rooted %v", at, x.Rooted)
			}
			// Without the journal what it had is lost, too.
			q.Masks[2] = 1
			if x := wantEvidence(t, "a block overwritten, no journal", v, 160, q); x.Rooted != !slices.Contains(c.Used, at) || len(x.Stale) != 0 {
				t.Fatalf("the block %d overwritten, no journal: rooted %v", at, x.Rooted)
			}
		}
		next := x.Super
		next.Epoch++
		grids := func(w api.Write) api.Image { return promising(t, v, im, []api.Write{w}, next) }
		gridHead := api.Head{Volume: 7, Address: l.Blocks, Kind: 3, Version: 1 << 20, Salt: 1}
		same := x.Readings[l.Blocks].Body
		for name, w := range map[string]api.Write{
			"another kind":      sealed(t, v, api.Head{Volume: 7, Address: l.Blocks, Kind: 4, Version: 1 << 20, Salt: 1}, same),
			"a bit beyond":      sealed(t, v, gridHead, same[:20]+"\x01"+same[21:]),
			"no grid":           sealed(t, v, gridHead, filled(1, 448)),
			"another root then": sealed(t, v, gridHead, same),
		} {
			if x := wantEvidence(t, name, v, 160, grids(w)); x.Rooted || !x.Has || !slices.Equal(x.Stale, []int{l.Blocks}) {
				t.Fatalf("%s: rooted %v, Stale %v", name, x.Rooted, x.Stale)
			}
		}
		// Another kind of block, the root being over it.
		w := sealed(t, v, api.Head{Volume: 7, Address: l.Blocks, Kind: 4, Version: 1 << 20, Salt: 1}, same)
		next.Root = rootOf(t, v, survey.Over(im, []api.Write{w}), 160, c.Used)
		if x := wantEvidence(t, "another kind, with its root", v, 160, grids(w)); x.Rooted || !x.Has {
			t.Fatalf("another kind, with its root: rooted %v", x.Rooted)
		}
		// Just its kind and its bits are asked.
		gridHead.Ino, gridHead.Gen, gridHead.Index = 5, 6, 7
		w = sealed(t, v, gridHead, same)
		next.Root = rootOf(t, v, survey.Over(im, []api.Write{w}), 160, c.Used)
		if x := wantEvidence(t, "a grid with numbers", v, 160, grids(w)); !x.Rooted || !x.Has || x.Kept {
			t.Fatalf("a grid with numbers: rooted %v", x.Rooted)
		}
		// The root that is asked is that of the promise, with its blocks.
		next.Root = x.Super.Root
		if x := wantEvidence(t, "a grid with numbers, the old root", v, 160, grids(w)); x.Rooted {
			t.Fatal("a grid with numbers, the old root: rooted")
		}
	})
}

// 14.1: images whose lists are shorter, longer, or of other lengths.
func TestGatherLists(t *testing.T) {
	onVaults(t, func(t *testing.T, v *vault.Vault) {
		p := made(t, v, 48)
		f := mounted(t, p, v)
		all(t, f.Create("/a"))
		fill(t, f, "/a", 0)
		all(t, f.Leave())
		im := block.All(p)
		next := wantEvidence(t, "whole", v, 48, im).Super
		w := sealed(t, v, api.Head{Volume: 7, Address: 37, Kind: 7, Ino: 3, Gen: 1, Version: 99, Salt: 1}, filled(3, 448))
		next.Epoch++
		next.Root = rootOf(t, v, survey.Over(im, []api.Write{w}), 48, upTo(0, 38))
		im = promising(t, v, im, []api.Write{w}, next)
		for _, lists := range [][2]int{{0, 0}, {1, 1}, {2, 2}, {3, 3}, {4, 4}, {27, 27}, {28, 98}, {98, 28}, {30, 40}, {37, 37}, {37, 98}, {98, 37}, {38, 38}, {47, 47}, {48, 48}, {98, 48}, {48, 98}, {98, 0}, {0, 98}} {
			part := api.Image{Raws: im.Raws[:lists[0]], Masks: im.Masks[:lists[1]]}
			x := wantEvidence(t, "lists cut", v, 48, part)
			n := min(lists[0], lists[1])
			// A block that the promise has stands in its place, also where the image has none.
			if kept := n > 3; x.Has != (n > 0) || x.Readings[37].Ok != kept || x.Rooted != (n >= 37) {
				t.Fatalf("%v blocks and numbers: has %v, rooted %v, the reading at 37 %v", lists, x.Has, x.Rooted, x.Readings[37].Ok)
			}
		}
		long := api.Image{Raws: append(slices.Clone(im.Raws), "x", blank(512)), Masks: append(slices.Clone(im.Masks), 1, 2, 3, 4)}
		if x := wantEvidence(t, "lists beyond", v, 48, long); !x.Rooted {
			t.Fatal("lists beyond: not rooted")
		}
		for _, raw := range []string{"", im.Raws[30][:511], im.Raws[30] + "\x00"} {
			odd := survey.Over(im, []api.Write{{Address: 30, Raw: raw}, {Address: 37, Raw: raw}, {Address: 0, Raw: raw}})
			if x := wantEvidence(t, "blocks of another length", v, 48, odd); x.Readings[30].Ok || !x.Readings[37].Ok || x.Rooted {
				t.Fatalf("blocks of another length: rooted %v", x.Rooted)
			}
		}
		for _, mask := range []int{1, 128, 255, 256, -1, math.MinInt} {
			dumb := survey.Over(im, nil)
			dumb.Masks[29] = mask
			if x := wantEvidence(t, "a sector that can't be read", v, 48, dumb); x.Readings[29].Ok {
				t.Fatal("a sector that can't be read: a reading")
			}
		}
	})
}

// 14.1: a vault that nobody gave opens nothing; there is no error.
func TestGatherNoVault(t *testing.T) {
	v := vault.Ideal()
	p := made(t, v, 48)
	for _, other := range []*vault.Vault{nil, {}, vault.Ideal()} {
		x := wantEvidence(t, "another vault", other, 48, block.All(p))
		if x.Has || x.Kept || x.Rooted || len(x.Stale) != 0 || len(x.Readings) != 48 || x.Super != (api.Super{}) {
			t.Fatalf("another vault: %s", brief(x))
		}
		c := judged(t, "another vault", x)
		if c.Authentic != 0 || len(c.Findings) != 9 || len(c.Wants) != 10 {
			t.Fatalf("another vault: %s", brief(c))
		}
		if _, e := survey.Gather(other, 47, block.All(p)); e != api.ErrArg {
			t.Fatalf("another vault, no layout: error %d", e)
		}
		wantEvidence(t, "no image", other, 48, api.Image{})
	}
}

// 14.1: a commit that is cut off at each of its writes, whatever is kept of what waited: what Gather tells is by the words, and nothing is found.
func TestGatherCutOff(t *testing.T) {
	t.Parallel()
	r := rand.New(rand.NewSource(14))
	v := vault.Ideal()
	start := made(t, v, 48)
	f := mounted(t, start, v)
	all(t, f.Create("/a"), f.Mkdir("/d"), f.Create("/d/b"))
	fill(t, f, "/a", 0, 12)
	all(t, f.Sync(), f.Leave())
	stale, unkept := 0, 0
	for fuse := 0; ; fuse++ {
		p := start.Copy()
		p.Arm(fuse)
		f, e := vfs.Mount(p, v, noAnchor)
		if e == api.OK {
			all(t, f.Remove("/d/b"), f.Mkdir("/d/c"))
			fd, _ := f.Open("/a")
			f.Write(fd, 448, "x")
			e = f.Sync()
		}
		for _, keep := range [][]bool{nil, kept(p.Pending(), 1), kept(p.Pending(), 2), kept(p.Pending(), 2+r.Intn(3))} {
			q := p.Copy()
			q.Start(keep)
			x := wantEvidence(t, "cut off", v, 48, block.All(q))
			c := judged(t, "cut off", x)
			if !x.Has || !x.Rooted || len(c.Findings) != 0 {
				t.Fatalf("cut off behind %d writes: has %v, rooted %v, findings %v", fuse, x.Has, x.Rooted, c.Findings)
			}
			if len(x.Stale) > 0 {
				stale++
			}
			if !x.Kept {
				unkept++
			}
			settled(t, "cut off", x, c)
		}
		if e == api.OK {
			break
		}
	}
	if stale < 20 || unkept < 20 {
		t.Fatalf("blocks of the journal counted %d times, its superblock %d times", stale, unkept)
	}
}

// kept is a keep of n writes: each one of so many.
func kept(n, each int) []bool {
	l := make([]bool, n)
	for i := range l {
		l[i] = i%each == 0
	}
	return l
}

// R3: the image stays as it is, and what is answered is the asker's own.
func TestGatherOwn(t *testing.T) {
	onVaults(t, func(t *testing.T, v *vault.Vault) {
		im := block.All(made(t, v, 48))
		next := gathered(t, v, 48, im).Super
		w := sealed(t, v, api.Head{Volume: 7, Address: 40, Kind: 7, Ino: 3, Version: 99, Salt: 1}, filled(3, 448))
		im = promising(t, v, im, []api.Write{w, sealed(t, v, api.Head{Address: 41, Kind: 7}, filled(4, 448))}, next)
		im.Raws, im.Masks = append(im.Raws, "behind")[:98], append(im.Masks, 77)[:98]
		was := api.Image{Raws: slices.Clone(im.Raws[:99]), Masks: slices.Clone(im.Masks[:99])}
		first := gathered(t, v, 48, im)
		second := gathered(t, v, 48, im)
		must := copied(second)
		clear(first.Readings)
		clear(first.Stale)
		_ = append(first.Readings[:0], api.Reading{Ok: true})
		same(t, "a second answer", second, must)
		same(t, "Raws", im.Raws[:99], was.Raws)
		same(t, "Masks", im.Masks[:99], was.Masks)
		for _, r := range second.Readings {
			for _, raw := range im.Raws {
				if shares(r.Body, raw) || shares(second.Super.Root, raw) {
					t.Fatal("a reading, or the root, is a piece of the image")
				}
			}
		}
	})
}
