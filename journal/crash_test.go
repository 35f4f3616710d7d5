package journal_test

import (
	"math/rand"
	"slices"
	"testing"

	"grapnel/api"
	"grapnel/block"
	"grapnel/journal"
	"grapnel/plate"
	"grapnel/vault"
)

// state is what 12.6 speaks of: a superblock, and all blocks from the grids' on.
type state struct {
	super api.Super
	raws  []string
}

// stateOf is what a device holds, with a superblock that was told of it.
func stateOf(p *plate.Plate, s api.Super) state {
	return state{super: s, raws: block.All(p).Raws[blocks:]}
}

// behind is a state behind a commit.
func (x state) behind(ws []api.Write, next api.Super) state {
	y := state{super: next, raws: slices.Clone(x.raws)}
	for _, w := range ws {
		y.raws[w.Address-blocks] = w.Raw
	}
	return y
}

func (x state) is(y state) bool { return x.super == y.super && slices.Equal(x.raws, y.raws) }

// wantWhole recovers a device till it is OK, with the power failing behind so many writes ahead of that, and holds it against the old and the new state. It tells whether it is the new one.
func wantWhole(t *testing.T, p *plate.Plate, v *vault.Vault, cuts []int, r *rand.Rand, was, next state) bool {
	t.Helper()
	for _, fuse := range cuts {
		p.Arm(fuse)
		s, n, e := journal.Recover(p, v)
		if e == api.OK {
			break
		}
		if s != (api.Super{}) || n != 0 || e != api.ErrPower {
			t.Fatalf("Recover, cut off: %v, %d, error %d", s, n, e)
		}
		k := keeps(p.Pending(), r)
		p.Start(k[r.Intn(len(k))])
	}
	p.Start(nil)
	s, _, e := journal.Recover(p, v)
	if e != api.OK {
		t.Fatalf("Recover: error %d", e)
	}
	got := stateOf(p, s)
	// What is there lasts: it is the same behind another crash, and another recovery has nothing to do.
	p.Start(nil)
	if again, n, e := journal.Recover(p, v); again != s || n != 0 || e != api.OK || !got.is(stateOf(p, again)) {
		t.Fatalf("Recover again: %v, %d, error %d; was %v", again, n, e, s)
	}
	if !got.is(was) && !got.is(next) {
		t.Fatalf("behind cuts of %v the Epoch is %d, and the blocks are neither the old nor the new ones", cuts, s.Epoch)
	}
	return got.is(next)
}

// wantWholeCommit cuts a commit off behind so many writes, of which so much waited and is kept, and then recoveries.
func wantWholeCommit(t *testing.T, start *plate.Plate, v *vault.Vault, ws []api.Write, next api.Super, fuse int, keep func(n int) []bool, cuts []int, r *rand.Rand) bool {
	t.Helper()
	p := start.Copy()
	was, _, _ := journal.Recover(p, v)
	before := stateOf(p, was)
	p.Arm(fuse)
	e := journal.Commit(p, v, ws, next)
	if e != api.OK && e != api.ErrPower || (e == api.OK) != (fuse >= 16*len(ws)+16) {
		t.Fatalf("Commit of %d blocks, %d writes: error %d", len(ws), fuse, e)
	}
	p.Start(keep(p.Pending()))
	isNew := wantWhole(t, p, v, cuts, r, before, before.behind(ws, next))
	if e == api.OK && !isNew {
		t.Fatalf("Commit of %d blocks was OK, and its blocks are not there", len(ws))
	}
	// The promise is what it hangs on.
	if lasts := 8*len(ws) + 8; fuse < lasts && isNew || fuse >= lasts && !isNew {
		t.Fatalf("Commit of %d blocks, %d writes: new %t", len(ws), fuse, isNew)
	}
	return isNew
}

// begun is a device of some commits, so that older promises and superblocks stand on it.
func begun(t *testing.T, v *vault.Vault, live, epoch int) *plate.Plate {
	t.Helper()
	p := laid(t, v, super(0, live))
	for i := 1; i <= epoch; i++ {
		commit(t, p, v, writes(100+i, upTo(27+i, 1+3*i%7)...), super(i, live))
	}
	return p
}

// 12.6: a commit that is cut off at each write, and whatever is kept of what waited; recoveries that are cut off, too.
func TestWhole(t *testing.T) {
	t.Parallel()
	onVaults(t, func(t *testing.T, v *vault.Vault) {
		r := rand.New(rand.NewSource(2))
		for _, epoch := range []int{0, 3} {
			start := begun(t, v, 48, epoch)
			for _, ws := range [][]api.Write{nil, writes(1, 30), writes(2, 27, 47)} {
				for fuse := range 16*len(ws) + 18 {
					for i := range keeps(8, r) {
						wantWholeCommit(t, start, v, ws, super(epoch+1, 48), fuse, func(n int) []bool { k := keeps(n, r); return k[i%len(k)] }, []int{r.Intn(8*len(ws) + 9), r.Intn(20)}, r)
					}
				}
			}
		}
	})
}

// 12.6: as many blocks as there may be.
func TestWholeFull(t *testing.T) {
	t.Parallel()
	v := vault.Ideal()
	r := rand.New(rand.NewSource(3))
	start := begun(t, v, 64, 2)
	ws := fullRow(64)
	for fuse := range 16*24 + 18 {
		for range 2 {
			wantWholeCommit(t, start, v, ws, super(3, 64), fuse, func(n int) []bool { k := keeps(n, r); return k[r.Intn(len(k))] }, []int{r.Intn(210)}, r)
		}
	}
}

// 12.6: every part of what waited of a promise and of a superblock; every part of a block in its place.
func TestWholeEachPart(t *testing.T) {
	t.Parallel()
	v := vault.Ideal()
	r := rand.New(rand.NewSource(4))
	start := begun(t, v, 48, 3)
	ws := writes(1, 31)
	for _, first := range []int{8, 16, 24} {
		for n := range 8 {
			for bits := range 1 << n {
				wantWholeCommit(t, start, v, ws, super(4, 48), first+n, func(n int) []bool { return subset(bits, n) }, nil, r)
			}
		}
	}
}

// 12.6: recoveries that are cut off at each write, one behind the other, every part being kept of a superblock that waited.
func TestWholeRecoveries(t *testing.T) {
	t.Parallel()
	v := vault.Ideal()
	r := rand.New(rand.NewSource(5))
	start := begun(t, v, 48, 3)
	ws := writes(1, 31, 40)
	for _, fuse := range []int{24, 30, 44} {
		for first := range 25 {
			for second := range 25 {
				wantWholeCommit(t, start, v, ws, super(4, 48), fuse, func(n int) []bool { return subset(r.Intn(256), n) }, []int{first, second, first}, r)
			}
		}
	}
}

// 12.6: long histories of commits, cuts and recoveries, by chance.
func TestWholeHistories(t *testing.T) {
	t.Parallel()
	onVaults(t, func(t *testing.T, v *vault.Vault) {
		r := rand.New(rand.NewSource(6))
		for range 6 {
			live := 48 + r.Intn(20)
			p := laid(t, v, super(0, live))
			now := stateOf(p, super(0, live))
			for turn := range 40 {
				ws := writes(turn, someAddresses(r, live)...)
				next := super(now.super.Epoch+1, live)
				next.Next = turn
				after := now.behind(ws, next)
				if r.Intn(3) > 0 {
					p.Arm(r.Intn(16*len(ws) + 20))
				}
				e := journal.Commit(p, v, ws, next)
				k := keeps(p.Pending(), r)
				p.Start(k[r.Intn(len(k))])
				isNew := wantWhole(t, p, v, []int{r.Intn(40), r.Intn(40)}[:r.Intn(3)], r, now, after)
				if e == api.OK && !isNew {
					t.Fatalf("the commit %d was OK, and is lost", turn)
				}
				if isNew {
					now = after
				}
			}
			if now.super.Epoch < 10 {
				t.Fatalf("of 40 commits %d", now.super.Epoch)
			}
		}
	})
}

// someAddresses is rising addresses that may be committed, at most 24.
func someAddresses(r *rand.Rand, live int) []int {
	l := upTo(27, live-27)
	r.Shuffle(len(l), func(i, j int) { l[i], l[j] = l[j], l[i] })
	l = l[:r.Intn(min(24, len(l))+1)]
	slices.Sort(l)
	return l
}

// 'Examples' 1: the power fails behind 20 writes, in the promise; and behind 24, when it is kept whole.
func TestExample(t *testing.T) {
	onVaults(t, func(t *testing.T, v *vault.Vault) {
		s := api.Super{Volume: 7, Live: 48, Root: root(0)}
		next := s
		next.Epoch = 1
		for _, c := range []struct{ fuse, parts int }{{20, 16}, {24, 1}} {
			for bits := range c.parts {
				p := newDevice(t, 784)
				format(t, p, v, s)
				p.Arm(c.fuse)
				if e := journal.Commit(p, v, writes(1, 40, 41), next); e != api.ErrPower {
					t.Fatalf("Commit: error %d", e)
				}
				p.Start(subset(bits, 4))
				if c.fuse == 20 {
					wantRecovered(t, "behind 20 writes", p, v, s, 0, api.OK)
				} else {
					wantRecovered(t, "behind 24 writes", p, v, next, 2, api.OK)
				}
			}
		}
	})
}
