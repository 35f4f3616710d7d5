package journal_test

import (
	"math"
	"math/rand"
	"slices"
	"testing"

	"grapnel/api"
	"grapnel/block"
	"grapnel/chart"
	"grapnel/journal"
	"grapnel/plate"
	"grapnel/vault"
)

func wantFound(t *testing.T, what string, v *vault.Vault, l api.Layout, im api.Image, want []api.Write, wantSuper api.Super) {
	t.Helper()
	if ws, s, ok := journal.Found(v, l, im); !slices.Equal(ws, want) || s != wantSuper || !ok {
		t.Fatalf("Found, %s: %x, %v, %t; want %x, %v", what, ws, s, ok, want, wantSuper)
	}
}

func wantNotFound(t *testing.T, what string, v *vault.Vault, l api.Layout, im api.Image) {
	t.Helper()
	if ws, s, ok := journal.Found(v, l, im); len(ws) != 0 || s != (api.Super{}) || ok {
		t.Fatalf("Found, %s: %x, %v, %t; want nothing", what, ws, s, ok)
	}
}

// wantAsWords holds Found against the chapter's words.
func wantAsWords(t *testing.T, what string, v *vault.Vault, l api.Layout, im api.Image) bool {
	t.Helper()
	ws, s, ok := promised(v, l, im)
	if ok {
		wantFound(t, what, v, l, im, ws, s)
	} else {
		wantNotFound(t, what, v, l, im)
	}
	return ok
}

func layoutOf(t *testing.T, live int) api.Layout {
	t.Helper()
	l, e := chart.Layout(live)
	if e != api.OK || l.Log != log || l.Blocks != blocks {
		t.Fatalf("the layout of %d: %v, error %d", live, l, e)
	}
	return l
}

// image is what stands on a device whose journal has these records and this promise.
func image(t *testing.T, live int, records []string, promise string) api.Image {
	t.Helper()
	im := block.All(device(t, live))
	im.Raws[2] = promise
	copy(im.Raws[log:], records)
	return im
}

// promising is an image that promises these blocks.
func promising(t *testing.T, v *vault.Vault, ws []api.Write, next api.Super) api.Image {
	t.Helper()
	return image(t, next.Live, rawsOf(ws), promiseBlock(t, v, ws, next).Raw)
}

func rawsOf(ws []api.Write) []string {
	var l []string
	for _, w := range ws {
		l = append(l, w.Raw)
	}
	return l
}

// copied is an image that may be changed.
func copied(im api.Image) api.Image {
	return api.Image{Raws: slices.Clone(im.Raws), Masks: slices.Clone(im.Masks)}
}

// 12.4: a promise that was made is found: of no block, of one, of as many as there may be.
func TestFound(t *testing.T) {
	onVaults(t, func(t *testing.T, v *vault.Vault) {
		for _, live := range []int{48, 49, 64} {
			for _, ws := range append(rowsOfBlocks(live), fullRow(live)) {
				for _, next := range []api.Super{super(0, live), super(1, live), super(1<<48-1, live)} {
					wantFound(t, "made by hand", v, layoutOf(t, live), promising(t, v, ws, next), ws, next)
				}
			}
		}
	})
}

// 12.4: behind a commit, and behind one that was cut off, its promise is there from its flush on.
func TestFoundBehindCommits(t *testing.T) {
	onVaults(t, func(t *testing.T, v *vault.Vault) {
		l := layoutOf(t, 48)
		for _, ws := range rowsOfBlocks(48) {
			p := laid(t, v, super(0, 48))
			wantNotFound(t, "behind Format", v, l, block.All(p))
			for _, fuse := range []int{0, 8 * len(ws), 8*len(ws) + 7, 8*len(ws) + 8, 16*len(ws) + 8, 16*len(ws) + 15, noFuse} {
				p := p.Copy()
				if fuse != noFuse {
					p.Arm(fuse)
				}
				journal.Commit(p, v, ws, super(1, 48))
				p.Start(all(200))
				if fuse != noFuse && fuse < 8*len(ws)+8 {
					wantNotFound(t, "cut off ahead", v, l, block.All(p))
				} else {
					wantFound(t, "cut off behind", v, l, block.All(p), ws, super(1, 48))
				}
			}
		}
	})
}

// 12.4: no promise in no image, in one of bytes 0, under no vault, under another one.
func TestFoundNothing(t *testing.T) {
	l := layoutOf(t, 48)
	onVaults(t, func(t *testing.T, v *vault.Vault) {
		wantNotFound(t, "no image", v, l, api.Image{})
		wantNotFound(t, "bytes 0", v, l, block.All(newDevice(t, 784)))
		wantNotFound(t, "never used", v, l, block.All(device(t, 48)))
		wantNotFound(t, "no layout", v, api.Layout{}, block.All(newDevice(t, 784)))
		ws := writes(1, 30, 31)
		im := promising(t, v, ws, super(1, 48))
		wantFound(t, "its vault", v, l, im, ws, super(1, 48))
		for _, other := range append(notGiven(), vault.Ideal()) {
			wantNotFound(t, "another vault", other, l, im)
		}
		for n := range 6 {
			wantAsWords(t, "Raws lack", v, l, api.Image{Raws: im.Raws[:n], Masks: im.Masks})
			wantAsWords(t, "Masks lack", v, l, api.Image{Raws: im.Raws, Masks: im.Masks[:n]})
		}
		wantFound(t, "just enough", v, l, api.Image{Raws: im.Raws[:5], Masks: im.Masks[:5]}, ws, super(1, 48))
		wantNotFound(t, "a record lacks", v, l, api.Image{Raws: im.Raws[:4], Masks: im.Masks[:5]})
	})
}

// 12.4: damage of each sector of a device, behind a commit and behind one that was cut off: a promise with its records counts as long as all of them are whole, and nothing else counts.
func TestFoundDamage(t *testing.T) {
	t.Parallel()
	onVaults(t, func(t *testing.T, v *vault.Vault) {
		l, ws := layoutOf(t, 48), writes(1, 33, 47)
		for _, fuse := range []int{noFuse, 24, 30} {
			p := laid(t, v, super(0, 48))
			if fuse != noFuse {
				p.Arm(fuse)
			}
			journal.Commit(p, v, ws, super(1, 48))
			p.Start(nil)
			for i := range sectors(48) {
				for _, harm := range []func(p *plate.Plate){
					func(p *plate.Plate) { p.Spoil(i) },
					func(p *plate.Plate) { s, _ := p.Held(i); p.Lay(i, with(s, i%64)) },
				} {
					p := p.Copy()
					harm(p)
					if i >= 16 && i < 40 {
						wantNotFound(t, "damage in the journal", v, l, block.All(p))
					} else {
						wantFound(t, "damage elsewhere", v, l, block.All(p), ws, super(1, 48))
					}
				}
			}
		}
	})
}

// 12.4: each byte of a promise and of its records counts, and each number of sectors that can't be read.
func TestFoundChanged(t *testing.T) {
	v := vault.Ideal()
	l, ws := layoutOf(t, 48), writes(1, 33, 47)
	im := promising(t, v, ws, super(1, 48))
	for at := range 6 {
		for i := range 512 {
			changed := copied(im)
			changed.Raws[at] = with(im.Raws[at], i)
			if ok := wantAsWords(t, "a byte changed", v, l, changed); ok != (at < 2 || at > 4) {
				t.Fatalf("the byte %d of the block %d changed: %t", i, at, ok)
			}
		}
		for _, mask := range []int{1, 2, 128, 255, 256, -1, math.MinInt, math.MaxInt} {
			dumb := copied(im)
			dumb.Masks[at] = mask
			if ok := wantAsWords(t, "a number of sectors", v, l, dumb); ok != (at < 2 || at > 4) {
				t.Fatalf("the number %d of the block %d: %t", mask, at, ok)
			}
		}
		for _, raw := range []string{"", im.Raws[at][:511], im.Raws[at] + "\x00"} {
			short := copied(im)
			short.Raws[at] = raw
			wantAsWords(t, "a block of another length", v, l, short)
		}
	}
}

// 12.4: promises that are authentic and say something else: how many, which hash, which superblock, what is behind.
func TestFoundBodies(t *testing.T) {
	t.Parallel()
	onVaults(t, func(t *testing.T, v *vault.Vault) {
		l, ws, next := layoutOf(t, 64), writes(1, upTo(30, 25)...), super(1, 64)
		for count := range 27 {
			// The hash is right for each number of blocks that there is.
			body := number(count, 2) + v.Hash(raws(ws[:min(count, 25)])) + superText(next)
			im := image(t, 64, rawsOf(ws), promiseOf(t, v, body, next).Raw)
			if count <= 24 {
				wantFound(t, "that many", v, l, im, ws[:count], next)
			} else {
				wantNotFound(t, "more than may be", v, l, im)
			}
			for _, says := range []int{0, 1, 2, 23, 24, 25, 26, 256, 280, 65535} {
				body := number(says, 2) + body[2:]
				im.Raws[2] = promiseOf(t, v, body, next).Raw
				if ok := wantAsWords(t, "another number", v, l, im); ok != (says == count && count <= 24) {
					t.Fatalf("%d blocks, and %d said: %t", count, says, ok)
				}
			}
		}
		text := promiseText(v, ws[:2], next)
		text += blank(448 - len(text))
		for i := range text {
			im := image(t, 64, rawsOf(ws), promiseOf(t, v, with(text, i), next).Raw)
			// Volume, Epoch, Next and Root may be any.
			free := i >= 34 && i < 52 || i >= 56 && i < 88
			if ok := wantAsWords(t, "a byte said otherwise", v, l, im); ok != free {
				t.Fatalf("the byte %d said otherwise: %t", i, ok)
			}
		}
	})
}

// 12.4: of a promise's head the kind and the address are asked, and it must be authentic; nothing more.
func TestFoundHeads(t *testing.T) {
	onVaults(t, func(t *testing.T, v *vault.Vault) {
		l, ws, next := layoutOf(t, 48), writes(1, 30), super(1, 48)
		text := promiseText(v, ws, next)
		for kind := range 10 {
			for _, at := range []int{0, 1, 2, 3, 48} {
				for _, h := range []api.Head{{}, {Volume: 7, Version: 1, Salt: 1}, {Volume: 9, Ino: 3, Gen: 4, Index: 5, Version: 6, Salt: 77}} {
					h.Kind, h.Address = kind, at
					im := image(t, 48, rawsOf(ws), sealed(t, v, h, text))
					if kind == 2 && at == 2 {
						wantFound(t, "another head", v, l, im, ws, next)
					} else {
						wantNotFound(t, "another kind or address", v, l, im)
					}
				}
			}
		}
	})
}

// 12.4: records whose hash is right, but that may not be written together.
func TestFoundRecords(t *testing.T) {
	v := vault.Ideal()
	l, next := layoutOf(t, 48), super(1, 48)
	of := func(records ...string) api.Image {
		text := ""
		for _, s := range records {
			text += s
		}
		body := number(len(records), 2) + v.Hash(text) + superText(next)
		return image(t, 48, records, promiseOf(t, v, body, next).Raw)
	}
	for _, addresses := range [][]int{{30, 30}, {31, 30}, {27, 47, 28}, {26}, {26, 27}, {48}, {47, 48}, {0}, {2}, {1<<32 - 1}} {
		wantNotFound(t, "addresses that may not be", v, l, of(rawsOf(writes(1, addresses...))...))
	}
	right := written(30, 1).Raw
	for _, wrong := range []string{with(right, 0), with(right, 3), with(right, 40), with(right, 47), blank(512)} {
		wantNotFound(t, "no head", v, l, of(wrong))
		wantNotFound(t, "no head behind", v, l, of(written(29, 1).Raw, wrong))
		wantNotFound(t, "no head ahead", v, l, of(wrong, written(31, 1).Raw))
	}
	// No head, where also the address 0 might be one.
	for _, wrong := range []string{blank(512), with(written(0, 1).Raw, 0), with(written(0, 1).Raw, 47)} {
		wantNotFound(t, "no head at 0", v, api.Layout{Live: 48, Log: 3}, of(wrong))
		wantNotFound(t, "no head at 0", v, api.Layout{Live: 48, Log: 3, Blocks: -5}, of(wrong))
	}
	wantFound(t, "a head at 0", v, api.Layout{Live: 48, Log: 3}, of(written(0, 1).Raw), writes(1, 0), next)
	// What is behind a head is not looked at: it may be sealed or not.
	ws := []api.Write{{Address: 27, Raw: headText(api.Head{Address: 27}) + blank(464)}, {Address: 47, Raw: sealed(t, v, api.Head{Address: 47, Kind: 7}, "data")}}
	wantFound(t, "any blocks", v, l, of(rawsOf(ws)...), ws, next)
}

// 12.4: of a layout Live, Log and Blocks are gone by, whatever they are.
func TestFoundLayouts(t *testing.T) {
	v := vault.Ideal()
	ws, next := writes(1, 30, 31), super(1, 48)
	im := promising(t, v, ws, next)
	none := promising(t, v, nil, next)
	shifted := copied(im)
	copy(shifted.Raws[50:], rawsOf(ws))
	copy(shifted.Raws[len(shifted.Raws)-2:], rawsOf(ws))
	for _, n := range []int{0, 1, 2, 3, 4, 27, 30, 31, 32, 47, 48, 49, 50, 51, 96, 97, 98, 1024, -1, math.MinInt, math.MaxInt, math.MaxInt - 1} {
		for i := range 3 {
			l := layoutOf(t, 48)
			*[]*int{&l.Live, &l.Log, &l.Blocks}[i] = n
			for _, im := range []api.Image{im, none, shifted} {
				wantAsWords(t, "another layout", v, l, im)
			}
		}
		l := layoutOf(t, 48)
		l.Commit, l.Nodes, l.Table, l.Data, l.Total = n, n, n, n, n
		wantFound(t, "what is not asked", v, l, im, ws, next)
	}
	wantFound(t, "the records elsewhere", v, api.Layout{Live: 48, Log: 96, Blocks: 30}, shifted, ws, next)
	wantNotFound(t, "blocks from a later address on", v, api.Layout{Live: 48, Log: 3, Blocks: 31}, im)
	wantNotFound(t, "another Live", v, layoutOf(t, 49), im)
}

// 12.4: images of many kinds against the chapter's words.
func TestFoundByChance(t *testing.T) {
	t.Parallel()
	r := rand.New(rand.NewSource(12))
	v := vault.Ideal()
	found := 0
	for range 3000 {
		live := 48 + r.Intn(3)
		ws := writes(r.Intn(4), upTo(26+r.Intn(5), r.Intn(4))...)
		if r.Intn(4) == 0 {
			r.Shuffle(len(ws), func(i, j int) { ws[i], ws[j] = ws[j], ws[i] })
		}
		im := promising(t, v, ws, super(r.Intn(4), live))
		for range r.Intn(3) {
			at := r.Intn(8)
			switch r.Intn(5) {
			case 0:
				im.Masks[at] = r.Intn(3)
			case 1:
				im.Raws[at] = with(im.Raws[at], r.Intn(512))
			case 2:
				im.Raws[at] = im.Raws[r.Intn(8)]
			case 3:
				im.Raws[at] = written(25+r.Intn(6), r.Intn(4)).Raw
			case 4:
				text := promiseText(v, ws, super(1, live))
				im.Raws[2] = promiseOf(t, v, with(text, r.Intn(len(text))), super(1, live)).Raw
			}
		}
		if wantAsWords(t, "by chance", v, layoutOf(t, 48+r.Intn(2)), im) {
			found++
		}
	}
	if found < 300 || found > 2700 {
		t.Fatalf("found in %d of 3000 images", found)
	}
}

// R3: the image stays as it is; what is answered is new memory, each time.
func TestFoundIsNew(t *testing.T) {
	onVaults(t, func(t *testing.T, v *vault.Vault) {
		l, ws, next := layoutOf(t, 48), writes(1, 30, 31, 32), super(1, 48)
		im := promising(t, v, ws, next)
		im.Raws, im.Masks = append(im.Raws, "behind")[:98], append(im.Masks, 77)[:98]
		was := copied(api.Image{Raws: im.Raws[:99], Masks: im.Masks[:99]})
		first, s, ok := journal.Found(v, l, im)
		if !ok || !slices.Equal(im.Raws[:99], was.Raws) || !slices.Equal(im.Masks[:99], was.Masks) {
			t.Fatalf("found %t, the image %v", ok, im)
		}
		for i, w := range first {
			if sameMemory(w.Raw, im.Raws[log+i]) || sameMemory(s.Root, im.Raws[2]) {
				t.Fatalf("the block %d, or the root, is a piece of the image", i)
			}
		}
		second, _, _ := journal.Found(v, l, im)
		first[0], first[2] = api.Write{}, api.Write{Address: 9}
		if !slices.Equal(second, ws) {
			t.Fatalf("the second list behind a change of the first: %v", second)
		}
		wantFound(t, "again", v, l, im, ws, next)
	})
}
