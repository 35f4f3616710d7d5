package block_test

import (
	"math"
	"testing"

	"grapnel/api"
	"grapnel/block"
	"grapnel/plate"
	"grapnel/vault"
)

func device(t *testing.T, sectors int) *plate.Plate {
	t.Helper()
	p, e := plate.New(sectors)
	if e != api.OK {
		t.Fatalf("New(%d): error %d", sectors, e)
	}
	return p
}

// cut lets the power fail at a write that is not taken.
func cut(t *testing.T, p *plate.Plate) {
	t.Helper()
	wantErr(t, "Arm", p.Arm(0), api.OK)
	wantErr(t, "Write at the fuse's end", p.Write(0, blank(64)), api.ErrPower)
}

func wantErr(t *testing.T, what string, got, want api.Errno) {
	t.Helper()
	if got != want {
		t.Fatalf("%s: error %d; want %d", what, got, want)
	}
}

func put(t *testing.T, p *plate.Plate, at int, raw string) {
	t.Helper()
	wantErr(t, "Put", block.Put(p, at, raw), api.OK)
}

func flush(t *testing.T, p *plate.Plate) {
	t.Helper()
	wantErr(t, "Flush", p.Flush(), api.OK)
}

func spoil(t *testing.T, p *plate.Plate, sector int) {
	t.Helper()
	wantErr(t, "Spoil", p.Spoil(sector), api.OK)
}

func wantGet(t *testing.T, p *plate.Plate, at int, raw string, mask int) {
	t.Helper()
	if s, m, e := block.Get(p, at); s != raw || m != mask || e != api.OK {
		t.Fatalf("Get(%d): %x, %d, error %d; want %x, %d", at, s, m, e, raw, mask)
	}
}

func wantNoGet(t *testing.T, p *plate.Plate, at int, want api.Errno) {
	t.Helper()
	if s, m, e := block.Get(p, at); s != "" || m != 0 || e != want {
		t.Fatalf("Get(%d): %x, %d, error %d; want nothing, error %d", at, s, m, e, want)
	}
}

func wantCounts(t *testing.T, p *plate.Plate, reads, writes, pending int) {
	t.Helper()
	if p.Reads() != reads || p.Writes() != writes || p.Pending() != pending {
		t.Fatalf("%d reads, %d writes, %d wait; want %d, %d, %d", p.Reads(), p.Writes(), p.Pending(), reads, writes, pending)
	}
}

// outside is addresses that a device of so many blocks has not; some of them, times eight, wrap round to one that it has.
func outside(blocks int) []int {
	return []int{-1, -2, -blocks - 1, blocks, blocks + 1, 1 << 32, 1 << 61, 1<<61 + 1, -(1 << 61), -(1 << 61) + 1, 1 << 62, math.MaxInt, math.MinInt}
}

// sizes is devices with and without sectors that belong to no block.
var sizes = []int{0, 1, 7, 8, 9, 15, 16, 17, 80, 32767, 32768}

// 6.2: the blocks that a device has, and those behind its ends.
func TestAddresses(t *testing.T) {
	for _, sectors := range sizes {
		p, n := device(t, sectors), sectors/8
		for _, at := range outside(n) {
			wantNoGet(t, p, at, api.ErrRange)
			wantErr(t, "Put outside", block.Put(p, at, filled(512, 1)), api.ErrRange)
			wantNoReading(t, "Load outside", block.Load(p, vault.Ideal(), at))
		}
		wantCounts(t, p, 0, 0, 0)
		if n == 0 {
			continue
		}
		for i, at := range []int{0, n / 2, n - 1} {
			raw := filled(512, byte(i+1))
			put(t, p, at, raw)
			wantGet(t, p, at, raw, 0)
		}
		for at := 8 * n; at < sectors; at++ {
			if s, e := p.Read(at); s != blank(64) || e != api.OK {
				t.Fatalf("the sector %d behind the last block: %x, error %d", at, s, e)
			}
		}
	}
}

// 6.2: ErrArg of a nil device, ahead of all others; a device that no call made has no block.
func TestNoDevice(t *testing.T) {
	for _, at := range []int{0, -1, 1, math.MaxInt, math.MinInt} {
		wantNoGet(t, nil, at, api.ErrArg)
		wantNoGet(t, &plate.Plate{}, at, api.ErrRange)
		for _, n := range []int{0, 511, 512, 513} {
			wantErr(t, "Put to nil", block.Put(nil, at, filled(n, 1)), api.ErrArg)
		}
		wantErr(t, "Put to a zero device", block.Put(&plate.Plate{}, at, filled(512, 1)), api.ErrRange)
		for _, v := range bothVaults(t) {
			wantNoReading(t, "Load of nil", block.Load(nil, v, at))
			wantNoReading(t, "Load of a zero device", block.Load(&plate.Plate{}, v, at))
		}
		wantNoReading(t, "Load of nil, no vault", block.Load(nil, nil, at))
	}
}

// 'Words': the block at an address has the eight sectors from 8 times the address on; Put writes these alone, Get reads these alone.
func TestSectors(t *testing.T) {
	p := device(t, 35)
	for at := range 4 {
		raw := filled(512, byte(at+1))
		put(t, p, at, raw)
		wantCounts(t, p, 16*at, 8*at+8, 8*at+8)
		for i := range 8 {
			if s, e := p.Read(8*at + i); s != raw[64*i:64*i+64] || e != api.OK {
				t.Fatalf("the sector %d: %x, error %d; want %x", 8*at+i, s, e, raw[64*i:64*i+64])
			}
		}
		wantGet(t, p, at, raw, 0)
	}
	for at := range 4 {
		wantGet(t, p, at, filled(512, byte(at+1)), 0)
	}
}

// 6.2: what Put writes waits, and is lost with the power; what is read is what waits.
func TestPutWaits(t *testing.T) {
	p := device(t, 24)
	put(t, p, 1, filled(512, 1))
	flush(t, p)
	put(t, p, 1, filled(512, 2))
	wantGet(t, p, 1, filled(512, 2), 0)
	p.Start(nil)
	wantGet(t, p, 1, filled(512, 1), 0)
	put(t, p, 1, filled(512, 3))
	p.Start([]bool{true, false, false, false, false, false, false, true})
	a, b := filled(512, 1), filled(512, 3)
	wantGet(t, p, 1, b[:64]+a[64:448]+b[448:], 0)
}

// 6.2: ErrRange ahead of ErrPower, and with the power off nothing is read or written.
func TestPowerOff(t *testing.T) {
	for _, sectors := range []int{8, 17, 80} {
		p, n := device(t, sectors), sectors/8
		put(t, p, n-1, filled(512, 1))
		cut(t, p)
		for at := range n {
			wantNoGet(t, p, at, api.ErrPower)
			wantErr(t, "Put with the power off", block.Put(p, at, filled(512, 2)), api.ErrPower)
			for _, size := range []int{0, 511, 513} {
				wantErr(t, "Put of wrong bytes with the power off", block.Put(p, at, filled(size, 2)), api.ErrArg)
			}
			wantNoReading(t, "Load with the power off", block.Load(p, vault.Ideal(), at))
		}
		for _, at := range outside(n) {
			wantNoGet(t, p, at, api.ErrRange)
			wantErr(t, "Put outside with the power off", block.Put(p, at, filled(512, 2)), api.ErrRange)
		}
		wantCounts(t, p, 0, 8, 8)
	}
}

// 6.2: ErrPower, though a sector can't be read as well.
func TestPowerAheadOfSectors(t *testing.T) {
	p := device(t, 8)
	spoil(t, p, 0)
	cut(t, p)
	wantNoGet(t, p, 0, api.ErrPower)
}

// 6.2: wrong bytes are told ahead of an address that is not there, and nothing is written.
func TestPutLengths(t *testing.T) {
	p := device(t, 24)
	for _, n := range []int{0, 1, 64, 448, 511, 513, 576, 1024} {
		for _, at := range append(outside(3), 0, 2) {
			wantErr(t, "Put of wrong bytes", block.Put(p, at, filled(n, 1)), api.ErrArg)
		}
	}
	wantCounts(t, p, 0, 0, 0)
}

// damaged is raw with bytes 0 in the sectors of a mask.
func damaged(raw string, mask int) string {
	b := []byte(raw)
	for i := range 8 {
		if mask>>i&1 == 1 {
			clear(b[64*i : 64*i+64])
		}
	}
	return string(b)
}

// 6.2, 6.3: each set of the eight sectors that can't be read, and the blocks beside.
func TestMasks(t *testing.T) {
	h := api.Head{Address: 1, Kind: api.KindData, Version: 1}
	for name, v := range bothVaults(t) {
		t.Run(name, func(t *testing.T) {
			raw := sealed(t, v, h, body(1))
			for mask := range 256 {
				p := spoilt(t, raw, mask)
				wantGet(t, p, 1, damaged(raw, mask), mask)
				wantCounts(t, p, 8, 24, 0)
				wantGet(t, p, 0, raw, 0)
				wantGet(t, p, 2, raw, 0)
				if got := block.Load(p, v, 1); mask == 0 {
					wantReading(t, "Load", got, h, body(1))
				} else {
					wantNoReading(t, "Load of a spoilt block", got)
				}
				put(t, p, 1, raw)
				wantGet(t, p, 1, raw, 0)
				wantReading(t, "Load of what was written anew", block.Load(p, v, 1), h, body(1))
			}
		})
	}
}

// spoilt is a device with a block at three addresses; of the middle one the sectors of a mask can't be read.
func spoilt(t *testing.T, raw string, mask int) *plate.Plate {
	t.Helper()
	p := device(t, 24)
	for at := range 3 {
		put(t, p, at, raw)
	}
	flush(t, p)
	for i := range 8 {
		if mask>>i&1 == 1 {
			spoil(t, p, 8+i)
		}
	}
	return p
}

// The chapter's second example.
func TestExampleGet(t *testing.T) {
	p := device(t, 16)
	spoil(t, p, 8+1)
	wantGet(t, p, 1, blank(512), 2)
	wantGet(t, p, 0, blank(512), 0)
}

// 6.3: a block is no reading, if a sector can't be read, though its bytes are the zeros that Get tells.
func TestLoadZeroSector(t *testing.T) {
	v := vault.Ideal()
	h := api.Head{Address: 0, Kind: api.KindData}
	raw := sealed(t, v, h, blank(448))
	for i := 1; i < 7; i++ {
		p := device(t, 8)
		put(t, p, 0, raw)
		flush(t, p)
		spoil(t, p, i)
		wantGet(t, p, 0, raw, 1<<i)
		wantReading(t, "Told of these bytes", block.Told(v, raw, 0), h, blank(448))
		wantNoReading(t, "Load behind a spoilt sector", block.Load(p, v, 0))
		wantNoReading(t, "Look behind a spoilt sector", block.Look(v, block.All(p), 0))
	}
}

// 6.2: the power fails behind each of the sectors: those ahead of it wait, none behind it.
func TestPutFuse(t *testing.T) {
	old, raw := filled(512, 1), filled(512, 2)
	for fuse := range 10 {
		p := device(t, 24)
		put(t, p, 1, old)
		flush(t, p)
		wantErr(t, "Arm", p.Arm(fuse), api.OK)
		want, written := api.ErrPower, min(fuse, 8)
		if fuse >= 8 {
			want = api.OK
		}
		wantErr(t, "Put at the fuse", block.Put(p, 1, raw), want)
		if p.Up() != (want == api.OK) {
			t.Fatalf("fuse %d: up %t", fuse, p.Up())
		}
		wantCounts(t, p, 0, 8+written, written)
		p.Start([]bool{true, true, true, true, true, true, true, true})
		wantGet(t, p, 1, raw[:64*written]+old[64*written:], 0)
		wantGet(t, p, 0, blank(512), 0)
		wantGet(t, p, 2, blank(512), 0)
	}
}

// 6.3, 6.5: a block at its own address, and laid at another one.
func TestLoad(t *testing.T) {
	for name, v := range bothVaults(t) {
		t.Run(name, func(t *testing.T) {
			for own := range 4 {
				h := api.Head{Address: own, Kind: api.KindData, Ino: 3, Gen: 1, Version: 1}
				raw := sealed(t, v, h, body(byte(own)))
				p := device(t, 33)
				for at := range 4 {
					wantNoReading(t, "Load of bytes 0", block.Load(p, v, at))
					put(t, p, at, raw)
				}
				for at := range 4 {
					if got := block.Load(p, v, at); at == own {
						wantReading(t, "Load", got, h, body(byte(own)))
					} else {
						wantNoReading(t, "Load elsewhere", got)
					}
				}
				for at := range 5 {
					for _, none := range notGiven() {
						wantNoReading(t, "Load without a vault", block.Load(p, none, at))
					}
				}
			}
		})
	}
}

// 6.5: some sectors of one block and some of another are no block, unless all are of one. (Head, body and tag are unlike in each sector.)
func TestTornBlocks(t *testing.T) {
	for name, v := range bothVaults(t) {
		t.Run(name, func(t *testing.T) {
			old, young := api.Head{Address: 2, Version: 1}, api.Head{Address: 2, Version: 2}
			a, b := sealed(t, v, old, body(1)), sealed(t, v, young, body(2))
			for mask := range 256 {
				p := device(t, 24)
				put(t, p, 2, a)
				flush(t, p)
				put(t, p, 2, b)
				keep := make([]bool, 8)
				for i := range keep {
					keep[i] = mask>>i&1 == 1
				}
				p.Start(keep)
				switch got := block.Load(p, v, 2); mask {
				case 0:
					wantReading(t, "Load of the old one", got, old, body(1))
				case 255:
					wantReading(t, "Load of the young one", got, young, body(2))
				default:
					wantNoReading(t, "Load of a torn block", got)
				}
			}
		})
	}
}
