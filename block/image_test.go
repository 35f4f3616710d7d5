package block_test

import (
	"math"
	"math/rand"
	"slices"
	"testing"

	"grapnel/api"
	"grapnel/block"
	"grapnel/plate"
	"grapnel/vault"
)

func wantImage(t *testing.T, what string, got api.Image, raws []string, masks []int) {
	t.Helper()
	if !slices.Equal(got.Raws, raws) || !slices.Equal(got.Masks, masks) {
		t.Fatalf("%s: %x, %v; want %x, %v", what, got.Raws, got.Masks, raws, masks)
	}
}

func wantAt(t *testing.T, im api.Image, at int, raw string, mask int) {
	t.Helper()
	if s, m := block.At(im, at); s != raw || m != mask {
		t.Fatalf("At(%d): %x, %d; want %x, %d", at, s, m, raw, mask)
	}
}

// 6.4: of each block what Get tells; with the power off bytes 0, and 255.
func TestAll(t *testing.T) {
	for _, sectors := range []int{0, 7, 8, 9, 15, 16, 17, 80} {
		p, n := device(t, sectors), sectors/8
		raws, masks := make([]string, n), make([]int, n)
		for at := range n {
			raws[at] = filled(512, byte(at+1))
			put(t, p, at, raws[at])
		}
		wantImage(t, "All of what waits", block.All(p), raws, masks)
		flush(t, p)
		for at := range n {
			masks[at] = 1<<(at%8) | 1<<(3*at%8)
			raws[at] = damaged(raws[at], masks[at])
			spoil(t, p, 8*at+at%8)
			spoil(t, p, 8*at+3*at%8)
		}
		wantImage(t, "All", block.All(p), raws, masks)
		wantCounts(t, p, 16*n, 8*n, 0)
		if sectors == 0 {
			continue
		}
		cut(t, p)
		for at := range n {
			raws[at], masks[at] = blank(512), 255
		}
		wantImage(t, "All with the power off", block.All(p), raws, masks)
	}
}

// 6.4: no device, and one that no call made, have no blocks; the greatest has 4096.
func TestAllEnds(t *testing.T) {
	wantImage(t, "All of nil", block.All(nil), nil, nil)
	wantImage(t, "All of a zero device", block.All(&plate.Plate{}), nil, nil)
	p := device(t, 32768)
	put(t, p, 4095, filled(512, 1))
	im := block.All(p)
	if len(im.Raws) != 4096 || len(im.Masks) != 4096 || im.Raws[4095] != filled(512, 1) || im.Raws[4094] != blank(512) {
		t.Fatalf("All of the greatest device: %d, %d blocks", len(im.Raws), len(im.Masks))
	}
}

// R3: an image is new memory, each time.
func TestAllIsNew(t *testing.T) {
	p := device(t, 16)
	put(t, p, 1, filled(512, 1))
	first := block.All(p)
	put(t, p, 1, filled(512, 2))
	second := block.All(p)
	first.Raws[0], first.Masks[0] = "changed", 7
	wantImage(t, "the first", first, []string{"changed", filled(512, 1)}, []int{7, 0})
	wantImage(t, "the second", second, []string{blank(512), filled(512, 2)}, []int{0, 0})
	wantImage(t, "All again", block.All(p), second.Raws, second.Masks)
}

// 6.4: the block and its number as they stand in the image, whatever the number is.
func TestAt(t *testing.T) {
	im := api.Image{Masks: []int{0, 1, 128, 255, 256, -1, math.MaxInt, math.MinInt}}
	for at := range im.Masks {
		im.Raws = append(im.Raws, filled(512, byte(at)))
	}
	for at, mask := range im.Masks {
		wantAt(t, im, at, filled(512, byte(at)), mask)
	}
	for _, at := range outside(len(im.Masks)) {
		wantAt(t, im, at, blank(512), 255)
		for _, v := range bothVaults(t) {
			wantNoReading(t, "Look outside", block.Look(v, im, at))
		}
	}
}

// 6.4: fewer Masks than Raws, fewer Raws than Masks, none at all.
func TestAtLacking(t *testing.T) {
	v := vault.Ideal()
	var raws []string
	for at := range 3 {
		raws = append(raws, sealed(t, v, api.Head{Address: at}, body(1)))
	}
	for nRaws := range 4 {
		for nMasks := range 4 {
			im := api.Image{Raws: raws[:nRaws], Masks: make([]int, nMasks)}
			for at := range 5 {
				if at < min(nRaws, nMasks) {
					wantAt(t, im, at, raws[at], 0)
					wantReading(t, "Look", block.Look(v, im, at), api.Head{Address: at}, body(1))
					continue
				}
				wantAt(t, im, at, blank(512), 255)
				wantNoReading(t, "Look where something lacks", block.Look(v, im, at))
			}
		}
	}
	wantAt(t, api.Image{}, 0, blank(512), 255)
	wantAt(t, api.Image{}, -1, blank(512), 255)
}

// 6.4: bytes that are not 512, whatever their number is; the blocks beside are there.
func TestAtLengths(t *testing.T) {
	v := vault.Ideal()
	raw := sealed(t, v, api.Head{Address: 1}, body(1))
	for _, s := range []string{"", raw[:64], raw[:511], raw[1:], raw + "\x00", raw + raw} {
		for _, mask := range []int{0, 1, 255, -1} {
			im := api.Image{Raws: []string{raw, s, raw}, Masks: []int{3, mask, 4}}
			wantAt(t, im, 0, raw, 3)
			wantAt(t, im, 1, blank(512), 255)
			wantAt(t, im, 2, raw, 4)
			wantNoReading(t, "Look at wrong bytes", block.Look(v, im, 1))
		}
	}
}

// 6.4: a reading, if the number is 0 and the block is sealed for that address.
func TestLook(t *testing.T) {
	for name, v := range bothVaults(t) {
		t.Run(name, func(t *testing.T) {
			h := api.Head{Address: 1, Kind: api.KindData, Version: 2}
			raw := sealed(t, v, h, body(1))
			for _, mask := range []int{1, 2, 128, 255, 256, -1, 1 << 32, math.MinInt, math.MaxInt} {
				im := api.Image{Raws: []string{raw, raw}, Masks: []int{mask, mask}}
				wantNoReading(t, "Look behind a number", block.Look(v, im, 1))
			}
			im := api.Image{Raws: []string{raw, raw, with(raw, 100), blank(512)}, Masks: []int{0, 0, 0, 0}}
			wantReading(t, "Look", block.Look(v, im, 1), h, body(1))
			wantNoReading(t, "Look at another address", block.Look(v, im, 0))
			wantNoReading(t, "Look at a changed block", block.Look(v, im, 2))
			wantNoReading(t, "Look at bytes 0", block.Look(v, im, 3))
			for _, none := range notGiven() {
				wantNoReading(t, "Look without a vault", block.Look(none, im, 1))
			}
			wantImage(t, "the image", im, []string{raw, raw, with(raw, 100), blank(512)}, []int{0, 0, 0, 0})
		})
	}
}

// R3: what At and Look answer is not the image's memory.
func TestAtIsNew(t *testing.T) {
	v := vault.Ideal()
	raw := sealed(t, v, api.Head{}, body(1))
	s, b := loose(raw)
	im := api.Image{Raws: []string{s}, Masks: []int{0}}
	got, _ := block.At(im, 0)
	look := block.Look(v, im, 0)
	clear(b)
	if got != raw {
		t.Fatalf("At: %x", got)
	}
	wantReading(t, "Look", look, api.Head{}, body(1))
}

// 6.2 to 6.4: on a device to which chance does what it likes, the calls tell the same of each block.
func TestCallsAgree(t *testing.T) {
	for seed := range int64(20) {
		chance := rand.New(rand.NewSource(seed))
		v, p := vault.Ideal(), device(t, 8*4+chance.Intn(8))
		for range 100 {
			befall(t, chance, v, p)
			im := block.All(p)
			for at := -1; at < 6; at++ {
				wantAgree(t, v, p, im, at)
			}
		}
	}
}

// befall does one thing to the device.
func befall(t *testing.T, chance *rand.Rand, v *vault.Vault, p *plate.Plate) {
	t.Helper()
	at, sector := chance.Intn(4), chance.Intn(32)
	switch chance.Intn(7) {
	case 0, 1, 2:
		block.Put(p, at, sealed(t, v, api.Head{Address: at ^ chance.Intn(8)/7, Version: chance.Intn(2)}, body(byte(chance.Intn(2)))))
	case 3:
		p.Spoil(sector)
	case 4:
		p.Flush()
	case 5:
		p.Arm(chance.Intn(12))
	default:
		p.Start([]bool{true, true, true, chance.Intn(2) == 0, true})
	}
}

func wantAgree(t *testing.T, v *vault.Vault, p *plate.Plate, im api.Image, at int) {
	t.Helper()
	raw, mask, e := block.Get(p, at)
	if e != api.OK {
		raw, mask = blank(512), 255
	}
	wantAt(t, im, at, raw, mask)
	load, look := block.Load(p, v, at), block.Look(v, im, at)
	if told := block.Told(v, raw, at); mask == 0 && told.Ok {
		wantReading(t, "Load", load, told.Head, told.Body)
		wantReading(t, "Look", look, told.Head, told.Body)
		return
	}
	wantNoReading(t, "Load", load)
	wantNoReading(t, "Look", look)
}
