package journal_test

import (
	"math/rand"
	"testing"

	"grapnel/api"
	"grapnel/journal"
	"grapnel/plate"
	"grapnel/vault"
)

func wantRecovered(t *testing.T, what string, p *plate.Plate, v *vault.Vault, want api.Super, wantN int, wantError api.Errno) {
	t.Helper()
	if s, n, e := journal.Recover(p, v); s != want || n != wantN || e != wantError {
		t.Fatalf("Recover, %s: %v, %d, error %d; want %v, %d, error %d", what, s, n, e, want, wantN, wantError)
	}
}

// wantNoneRecovered does so where there is no superblock, or no power: nothing is written then.
func wantNoneRecovered(t *testing.T, what string, p *plate.Plate, v *vault.Vault, want api.Errno) {
	t.Helper()
	was := p.Copy()
	wantRecovered(t, what, p, v, api.Super{}, 0, want)
	wantAlike(t, what, p, was)
}

// wantRecoveredAsWords holds Recover against the chapter's words, the power failing behind each number of its writes, and not failing.
func wantRecoveredAsWords(t *testing.T, what string, p *plate.Plate, v *vault.Vault, live int, fuses []int) {
	t.Helper()
	for _, fuse := range fuses {
		got, want := p.Copy(), p.Copy()
		if fuse != noFuse {
			got.Arm(fuse)
			want.Arm(fuse)
		}
		s, n, e := recovered(t, want, v, live)
		wantRecovered(t, what, got, v, s, n, e)
		wantAlike(t, what, got, want)
		if e == api.OK {
			// Behind it another one has nothing to do.
			was := got.Copy()
			wantRecovered(t, what+", again", got, v, s, 0, api.OK)
			wantAlike(t, what+", again", got, was)
		}
	}
}

// 12.5: no power, no device, no living part, no superblock, in this order.
func TestRecoverRefused(t *testing.T) {
	onVaults(t, func(t *testing.T, v *vault.Vault) {
		for _, v := range append(notGiven(), v) {
			wantNoneRecovered(t, "nil", nil, v, api.ErrPower)
			wantNoneRecovered(t, "zero", &plate.Plate{}, v, api.ErrPower)
			for _, n := range []int{0, 8, 783, 785, 776, 32768} {
				wantNoneRecovered(t, "another size", newDevice(t, n), v, api.ErrSuper)
			}
			wantNoneRecovered(t, "another size, off", cut(newDevice(t, 785)), v, api.ErrPower)
			wantNoneRecovered(t, "bytes 0", newDevice(t, 784), v, api.ErrSuper)
			wantNoneRecovered(t, "never used", device(t, 48), v, api.ErrSuper)
			wantNoneRecovered(t, "never used, off", cut(device(t, 48)), v, api.ErrPower)
		}
		p := laid(t, v, super(0, 48))
		commit(t, p, v, writes(1, 30), super(1, 48))
		for _, other := range append(notGiven(), vault.Ideal()) {
			wantNoneRecovered(t, "another vault", p, other, api.ErrSuper)
		}
		wantRecovered(t, "its vault", p, v, super(1, 48), 0, api.OK)
		wantNoneRecovered(t, "its vault, off", cut(p), v, api.ErrPower)
	})
}

// 12.5: superblocks that are of another living part, of the other slot, or of no kind, are none, though they are authentic.
func TestRecoverNoSuper(t *testing.T) {
	onVaults(t, func(t *testing.T, v *vault.Vault) {
		p := device(t, 48)
		play(p, []row{{superBlock(t, v, super(0, 49)), superBlock(t, v, super(1, 47))}})
		wantNoneRecovered(t, "another Live", p, v, api.ErrSuper)
		for at := range 2 {
			// Epochs of the other slot, sealed for this one.
			play(p, []row{{{Address: at, Raw: sealed(t, v, api.Head{Address: at, Kind: 1}, superText(super(3-at, 48)))}}})
		}
		wantNoneRecovered(t, "the other slot", p, v, api.ErrSuper)
		play(p, []row{{{Address: 0, Raw: sealed(t, v, api.Head{Address: 0, Kind: 2}, superText(super(0, 48)))}}})
		play(p, []row{{{Address: 1, Raw: superBlock(t, v, super(0, 48)).Raw}}})
		wantNoneRecovered(t, "another kind, another address", p, v, api.ErrSuper)
		// A promise alone is no superblock.
		ws := writes(1, 30)
		play(p, []row{{{Address: 3, Raw: ws[0].Raw}, promiseBlock(t, v, ws, super(1, 48))}})
		wantNoneRecovered(t, "a promise alone", p, v, api.ErrSuper)
		play(p, []row{{superBlock(t, v, super(0, 48))}})
		wantRecovered(t, "a promise and its superblock", p, v, super(1, 48), 1, api.OK)
	})
}

// 12.5: a promise is kept just if its superblock is the next one.
func TestRecoverEpochs(t *testing.T) {
	onVaults(t, func(t *testing.T, v *vault.Vault) {
		ws := writes(1, 30, 40)
		for _, epoch := range []int{0, 1, 2, 7, 1<<48 - 2, 1<<48 - 1} {
			for more := -2; more <= 3; more++ {
				next := super(epoch+more, 48)
				if next.Epoch < 0 || next.Epoch >= 1<<48 {
					continue
				}
				p := laid(t, v, super(epoch, 48))
				play(p, []row{{{Address: 3, Raw: ws[0].Raw}, {Address: 4, Raw: ws[1].Raw}, promiseBlock(t, v, ws, next)}})
				wantRecoveredAsWords(t, "an Epoch", p, v, 48, []int{noFuse})
				if more == 1 {
					wantRecovered(t, "the next", p, v, next, 2, api.OK)
				} else {
					wantRecovered(t, "another one", p, v, super(epoch, 48), 0, api.OK)
				}
			}
		}
	})
}

// 12.5: behind a commit that was cut off at each write, whatever is kept; the power failing in the recovery, too.
func TestRecoverBehindCuts(t *testing.T) {
	t.Parallel()
	r := rand.New(rand.NewSource(1))
	v := vault.Ideal()
	for _, ws := range [][]api.Write{nil, writes(1, 27), writes(2, 33, 47)} {
		var each []int
		for fuse := range 8*len(ws) + 10 {
			each = append(each, fuse)
		}
		start := laid(t, v, super(4, 48))
		commit(t, start, v, writes(9, 33, 40), super(5, 48))
		for fuse := range 16*len(ws) + 18 {
			p := start.Copy()
			p.Arm(fuse)
			journal.Commit(p, v, ws, super(6, 48))
			for _, keep := range keeps(p.Pending(), r) {
				p := p.Copy()
				p.Start(keep)
				fuses := []int{noFuse, 0}
				// Where nothing is written no power fails.
				if _, n, _ := journal.Recover(p.Copy(), v); n > 0 {
					fuses = append(fuses, each...)
				}
				wantRecoveredAsWords(t, "behind a cut", p, v, 48, fuses)
			}
		}
	}
}

// 12.5: behind damage of each sector of the slots and the journal, after a commit and after one that was cut off: what is left is gone by.
func TestRecoverDamage(t *testing.T) {
	t.Parallel()
	onVaults(t, func(t *testing.T, v *vault.Vault) {
		ws := writes(1, 33, 47)
		for _, fuse := range []int{noFuse, 24, 44} {
			p := laid(t, v, super(0, 48))
			if fuse != noFuse {
				p.Arm(fuse)
			}
			journal.Commit(p, v, ws, super(1, 48))
			p.Start(nil)
			for i := range 8 * 28 {
				spoilt, changed := p.Copy(), p.Copy()
				spoilt.Spoil(i)
				s, _ := p.Held(i)
				changed.Lay(i, with(s, i%64))
				wantSuper, wantN, wantError := super(1, 48), 2, api.OK
				switch {
				case i < 8 && fuse == noFuse, i >= 16 && fuse == noFuse:
					wantN = 0
				case i < 8:
					wantSuper, wantN, wantError = api.Super{}, 0, api.ErrSuper
				case i >= 16 && i < 40:
					wantSuper, wantN = super(0, 48), 0
				}
				for _, p := range []*plate.Plate{spoilt, changed} {
					wantRecoveredAsWords(t, "behind damage", p, v, 48, []int{noFuse, 10})
					wantRecovered(t, "behind damage", p, v, wantSuper, wantN, wantError)
				}
			}
		}
	})
}

// 12.5: both slots damaged: there is no superblock, though the journal has one.
func TestRecoverBothSlots(t *testing.T) {
	onVaults(t, func(t *testing.T, v *vault.Vault) {
		p := laid(t, v, super(0, 48))
		commit(t, p, v, writes(1, 30), super(1, 48))
		for i := range 8 {
			p := p.Copy()
			p.Spoil(i)
			p.Spoil(15 - i)
			wantNoneRecovered(t, "both slots", p, v, api.ErrSuper)
			p.Start(nil)
			if e := journal.Anew(p, v, super(2, 48)); e != api.OK {
				t.Fatalf("Anew: error %d", e)
			}
			wantRecovered(t, "a superblock anew", p, v, super(2, 48), 0, api.OK)
		}
	})
}

// 12.5: what waits counts as what is kept does, and lasts behind the flushes of a recovery.
func TestRecoverWaiting(t *testing.T) {
	v := vault.Ideal()
	ws := writes(1, 30, 40)
	p := device(t, 48)
	for _, w := range []api.Write{superBlock(t, v, super(0, 48)), {Address: 3, Raw: ws[0].Raw}, {Address: 4, Raw: ws[1].Raw}, promiseBlock(t, v, ws, super(1, 48))} {
		for i := range 8 {
			p.Write(8*w.Address+i, w.Raw[64*i:64*(i+1)])
		}
	}
	wantRecoveredAsWords(t, "all waits", p, v, 48, []int{noFuse, 0, 10, 16, 20})
	wantRecovered(t, "all waits", p, v, super(1, 48), 2, api.OK)
	p.Start(nil)
	wantRecovered(t, "all lasts", p, v, super(1, 48), 0, api.OK)
}

// R3: the superblock that is answered is new memory: the device may be changed behind it.
func TestRecoverIsNew(t *testing.T) {
	onVaults(t, func(t *testing.T, v *vault.Vault) {
		p := laid(t, v, super(0, 48))
		first, _, _ := journal.Recover(p, v)
		commit(t, p, v, writes(1, 30), super(1, 48))
		second, _, _ := journal.Recover(p, v)
		if first != super(0, 48) || second != super(1, 48) {
			t.Fatalf("the superblocks: %v, %v", first, second)
		}
	})
}
