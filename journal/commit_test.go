package journal_test

import (
	"math"
	"slices"
	"testing"

	"grapnel/api"
	"grapnel/block"
	"grapnel/journal"
	"grapnel/plate"
	"grapnel/vault"
)

// rowsOfBlocks is what may be committed on a device of so many blocks: none, one, two, at both ends, as many as there may be.
func rowsOfBlocks(live int) [][]api.Write {
	return [][]api.Write{
		nil,
		writes(1, 27), writes(2, live-1), writes(3, 40),
		writes(4, 27, live-1), writes(5, 33, 34),
		writes(6, upTo(27, 20)...),
		writes(7, append(upTo(27, 11), upTo(live-9, 9)...)...),
	}
}

// fullRow is as many blocks as there may be: all 21 of the least device, 24 of a greater one.
func fullRow(live int) []api.Write {
	return writes(8, upTo(live-min(24, live-27), min(24, live-27))...)
}

// 12.3: what Commit writes, in which order, and where it stops with the power: of no block, of one, of many.
func TestCommit(t *testing.T) {
	onVaults(t, func(t *testing.T, v *vault.Vault) {
		for _, live := range []int{48, 49} {
			for name, p := range starts(t, v, live) {
				for _, ws := range rowsOfBlocks(live) {
					next := super(6+len(ws), live)
					fuses := []int{0, 1, 7, 8, 9, 8 * len(ws), 8*len(ws) + 7, 8*len(ws) + 8, 16*len(ws) + 8, 16*len(ws) + 15, noFuse}
					for _, fuse := range fuses {
						wantPlayed(t, name, p, fuse, commitRows(t, v, ws, next), func(p *plate.Plate) api.Errno { return journal.Commit(p, v, ws, next) })
					}
				}
			}
		}
	})
}

// 12.3: at each write, the power failing there.
func TestCommitEachWrite(t *testing.T) {
	v := vault.Ideal()
	for _, c := range []struct {
		live int
		ws   []api.Write
	}{{48, nil}, {48, writes(1, 41)}, {48, writes(2, 27, 47)}, {48, fullRow(48)}, {64, fullRow(64)}} {
		next := super(1, c.live)
		p := laid(t, v, super(0, c.live))
		wantPlayedEach(t, "Commit", p, 16*len(c.ws)+16, commitRows(t, v, c.ws, next), func(p *plate.Plate) api.Errno { return journal.Commit(p, v, c.ws, next) })
	}
	if n := len(fullRow(64)); n != 24 {
		t.Fatalf("as many as there may be: %d", n)
	}
}

// 12.3: superblocks of numbers at their bounds. Which Epoch is next is not asked.
func TestCommitSupers(t *testing.T) {
	onVaults(t, func(t *testing.T, v *vault.Vault) {
		p := laid(t, v, super(0, 48))
		for _, next := range wideSupers() {
			next.Live = 48
			ws := writes(1, 30, 31)
			wantPlayed(t, "Commit", p, noFuse, commitRows(t, v, ws, next), func(p *plate.Plate) api.Errno { return journal.Commit(p, v, ws, next) })
		}
	})
}

// 12.3: 24 blocks, and one more, whatever else is wrong.
func TestCommitTooMany(t *testing.T) {
	v := vault.Ideal()
	p := laid(t, v, super(0, 100))
	commit(t, p, v, writes(1, upTo(50, 24)...), super(1, 100))
	for _, n := range []int{25, 26, 73} {
		ws := writes(2, upTo(27, n)...)
		wantUntouched(t, "too many", p, v, api.ErrLong, func() api.Errno { return journal.Commit(p, v, ws, super(2, 100)) })
		wantUntouched(t, "too many, another Live", p, v, api.ErrLong, func() api.Errno { return journal.Commit(p, v, ws, super(2, 99)) })
		wantUntouched(t, "too many, no vault", p, v, api.ErrLong, func() api.Errno { return journal.Commit(p, nil, ws, super(-1, 100)) })
		wantUntouched(t, "too many, no device", nil, v, api.ErrLong, func() api.Errno { return journal.Commit(nil, v, ws, super(2, 100)) })
		wantUntouched(t, "too many that are none", p, v, api.ErrLong, func() api.Errno { return journal.Commit(p, v, make([]api.Write, n), super(2, 100)) })
	}
}

// wrongBlocks is blocks that may not be written, each for a reason of its own.
func wrongBlocks(live int) map[string]api.Write {
	right := written(40, 1)
	out := map[string]api.Write{
		"nothing": {}, "no bytes": {Address: 40}, "a byte less": {Address: 40, Raw: right.Raw[:511]}, "a byte more": {Address: 40, Raw: right.Raw + "\x00"}, "a head alone": {Address: 40, Raw: right.Raw[:48]}, "less than a head": {Address: 40, Raw: right.Raw[:47]},
		"another address": {Address: 41, Raw: right.Raw}, "no mark": {Address: 40, Raw: with(right.Raw, 0)}, "no head": {Address: 40, Raw: with(right.Raw, 47)}, "bytes 0": {Address: 40, Raw: blank(512)},
		"of another address": {Address: 40, Raw: with(right.Raw, 10)}, "of an address far away": {Address: 40, Raw: with(right.Raw, 13)},
	}
	for _, at := range []int{0, 1, 2, 3, 25, 26, live, live + 1, 98, 1<<32 - 1} {
		out["at "+number(at, 4)] = written(at, 1)
	}
	for _, at := range []int{-1, -40, 40 + 1<<32, math.MinInt, math.MaxInt} {
		out["outside "+number(at, 8)] = api.Write{Address: at, Raw: right.Raw}
	}
	return out
}

// 12.3, 'Words': a block that may not be written, alone, and at each place among others.
func TestCommitWrongBlocks(t *testing.T) {
	v := vault.Ideal()
	for _, live := range []int{48, 49} {
		p := laid(t, v, super(0, live))
		for name, wrong := range wrongBlocks(live) {
			for _, ws := range [][]api.Write{{wrong}, append(writes(1, 27, 39), wrong), append([]api.Write{wrong}, writes(1, 42, live-1)...), append(append(writes(1, 39), wrong), written(42, 1))} {
				wantUntouched(t, name, p, v, api.ErrArg, func() api.Errno { return journal.Commit(p, v, ws, super(1, live)) })
			}
		}
		for _, addresses := range [][]int{{40, 40}, {41, 40}, {27, 47, 28}, {30, 31, 31}, {26, 27}, {46, 47, live}, {0, 30}} {
			wantUntouched(t, "not rising, or outside", p, v, api.ErrArg, func() api.Errno { return journal.Commit(p, v, writes(1, addresses...), super(1, live)) })
		}
	}
	// Blocks that may be written on a greater device.
	p := laid(t, v, super(0, 49))
	commit(t, p, v, writes(1, 46, 47, 48), super(1, 49))
}

// 12.3: behind a commit the blocks stand in their places and the superblock is the next, one commit behind the other; nothing else is changed.
func TestCommitsInARow(t *testing.T) {
	onVaults(t, func(t *testing.T, v *vault.Vault) {
		p := laid(t, v, super(0, 48))
		for epoch := 1; epoch <= 6; epoch++ {
			ws := writes(epoch, upTo(27+epoch, 2*epoch-1)...)
			want := p.Copy()
			commit(t, p, v, ws, super(epoch, 48))
			play(want, commitRows(t, v, ws, super(epoch, 48)))
			wantAlike(t, "a commit", p, want)
			for _, w := range ws {
				if raw, mask, _ := block.Get(p, w.Address); raw != w.Raw || mask != 0 {
					t.Fatalf("the block %d behind its commit: %x", w.Address, raw)
				}
			}
			wantRecovered(t, "behind a commit", p, v, super(epoch, 48), 0, api.OK)
		}
	})
}

// R3: the blocks that are handed in stay as they are, also behind their end.
func TestCommitListsStay(t *testing.T) {
	v := vault.Ideal()
	ws := writes(1, upTo(27, 30)...)
	was := slices.Clone(ws)
	for n := range len(ws) {
		for _, fuse := range []int{noFuse, 4, 8*n + 20} {
			p := laid(t, v, super(0, 64))
			if fuse != noFuse {
				p.Arm(fuse)
			}
			e := journal.Commit(p, v, ws[:n], super(1, 64))
			p.Start(nil)
			journal.Recover(p, v)
			if !slices.Equal(ws, was) || n > 24 && e != api.ErrLong {
				t.Fatalf("of %d blocks: error %d, left %v", n, e, ws)
			}
		}
	}
}
