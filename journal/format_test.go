package journal_test

import (
	"testing"

	"grapnel/api"
	"grapnel/journal"
	"grapnel/plate"
	"grapnel/vault"
)

// noFuse lets the power stay.
const noFuse = -1

// wantPlayed lets the power fail behind so many writes of a call, and holds what the call leaves and tells against its rows.
func wantPlayed(t *testing.T, what string, p *plate.Plate, fuse int, rows []row, call func(p *plate.Plate) api.Errno) {
	t.Helper()
	got, want := p.Copy(), p.Copy()
	if fuse != noFuse {
		got.Arm(fuse)
		want.Arm(fuse)
	}
	wantError := play(want, rows)
	if e := call(got); e != wantError {
		t.Fatalf("%s, %d writes: error %d; want %d", what, fuse, e, wantError)
	}
	wantAlike(t, what, got, want)
}

// wantPlayedEach does so behind each number of writes, and without a failure. How many there are is told, too.
func wantPlayedEach(t *testing.T, what string, p *plate.Plate, writes int, rows []row, call func(p *plate.Plate) api.Errno) {
	t.Helper()
	for fuse := noFuse; fuse <= writes+1; fuse++ {
		wantPlayed(t, what, p, fuse, rows, call)
	}
	last := p.Copy()
	if e := call(last); e != api.OK || last.Writes()-p.Writes() != writes || last.Pending() != 0 {
		t.Fatalf("%s: error %d, %d writes, %d wait; want %d writes", what, e, last.Writes()-p.Writes(), last.Pending(), writes)
	}
}

// starts is devices ahead of a call: one never used, one with a superblock and a promise, one on which other writes wait.
func starts(t *testing.T, v *vault.Vault, live int) map[string]*plate.Plate {
	t.Helper()
	used := laid(t, v, super(4, live))
	commit(t, used, v, writes(3, 27, 40, 47), super(5, live))
	waits := device(t, live)
	for _, i := range []int{0, 8, 16, 24, 8 * 27, 8 * 47, sectors(live) - 1, 3, 0} {
		waits.Write(i, sector(9000+i))
	}
	return map[string]*plate.Plate{"never used": device(t, live), "used": used, "others wait": waits}
}

// 12.2: what Format writes, in which order, and where it stops with the power.
func TestFormat(t *testing.T) {
	onVaults(t, func(t *testing.T, v *vault.Vault) {
		for _, live := range []int{48, 49, 65} {
			for name, p := range starts(t, v, live) {
				for _, s := range []api.Super{super(0, live), super(1, live), super(6, live), super(1<<48-1, live)} {
					wantPlayedEach(t, name, p, 24, formatRows(t, v, s), func(p *plate.Plate) api.Errno { return journal.Format(p, v, s) })
				}
			}
		}
		s := super(0, 1024)
		wantPlayed(t, "the greatest", device(t, 1024), noFuse, formatRows(t, v, s), func(p *plate.Plate) api.Errno { return journal.Format(p, v, s) })
	})
}

// 12.2: what Anew writes, and where it stops with the power; the other slot and the promise stay.
func TestAnew(t *testing.T) {
	onVaults(t, func(t *testing.T, v *vault.Vault) {
		for _, live := range []int{48, 49, 65} {
			for name, p := range starts(t, v, live) {
				for _, s := range []api.Super{super(0, live), super(5, live), super(6, live), super(1<<48-1, live)} {
					wantPlayedEach(t, name, p, 8, anewRows(t, v, s), func(p *plate.Plate) api.Errno { return journal.Anew(p, v, s) })
				}
			}
		}
		s := super(1, 1024)
		wantPlayed(t, "the greatest", device(t, 1024), noFuse, anewRows(t, v, s), func(p *plate.Plate) api.Errno { return journal.Anew(p, v, s) })
	})
}

// 12.2: behind Format there is the superblock, and nothing else is: an older one of a greater Epoch and an old promise are gone.
func TestFormatted(t *testing.T) {
	onVaults(t, func(t *testing.T, v *vault.Vault) {
		p := laid(t, v, super(0, 48))
		for epoch := 1; epoch <= 3; epoch++ {
			commit(t, p, v, writes(epoch, 30), super(epoch, 48))
		}
		for _, epoch := range []int{2, 1, 0} {
			p := p.Copy()
			format(t, p, v, super(epoch, 48))
			wantRecovered(t, "behind Format", p, v, super(epoch, 48), 0, api.OK)
		}
	})
}

// 12.2: with the power failing anywhere in Anew there is the one superblock or the other.
func TestAnewCut(t *testing.T) {
	onVaults(t, func(t *testing.T, v *vault.Vault) {
		p := laid(t, v, super(4, 48))
		for fuse := range 10 {
			for bits := range 1 << min(fuse, 8) {
				p := p.Copy()
				p.Arm(fuse)
				e := journal.Anew(p, v, super(5, 48))
				if (e == api.OK) != (fuse >= 8) || e != api.OK && e != api.ErrPower {
					t.Fatalf("Anew, %d writes: error %d", fuse, e)
				}
				p.Start(subset(bits, fuse))
				want := super(4, 48)
				if fuse >= 8 || bits == 255 {
					want = super(5, 48)
				}
				wantRecovered(t, "behind Anew", p, v, want, 0, api.OK)
			}
		}
	})
}

// kindsOfDevices is devices that have the living part of 48 blocks or not.
func kindsOfDevices(t *testing.T) map[string]*plate.Plate {
	t.Helper()
	return map[string]*plate.Plate{
		"nil": nil, "zero": {}, "empty": newDevice(t, 0), "a sector less": newDevice(t, 783), "a sector more": newDevice(t, 785), "a block less": newDevice(t, 776),
		"of 49": device(t, 49), "of 49, off": cut(device(t, 49)), "of 48": device(t, 48), "of 48, off": cut(device(t, 48)), "a sector more, off": cut(newDevice(t, 785)),
	}
}

// faults is what may be wrong of a call's arguments, and what is wrong with them.
type faults struct {
	device, off bool
	super       api.Errno // of pack.Super
	vault       bool
}

// eachFault goes through devices, superblocks and vaults of all kinds, together: the first fault may not hide the next.
func eachFault(t *testing.T, run func(what string, f faults, p *plate.Plate, v *vault.Vault, s api.Super)) {
	t.Helper()
	supers := wrongSupers()
	supers[super(0, 48)], supers[super(1, 48)] = api.OK, api.OK
	for _, live := range []int{0, 47, 49, 50, 1<<32 - 1} {
		supers[super(1, live)] = api.OK
	}
	for _, live := range []int{-1, -48, 1 << 32} {
		supers[super(1, live)] = api.ErrRange
	}
	for name, p := range kindsOfDevices(t) {
		for s, e := range supers {
			for _, v := range append(notGiven(), vault.Ideal(), realVault(t)) {
				f := faults{device: sectors(s.Live) != p.Sectors() || s.Live < 48, off: !p.Up(), super: e, vault: v == nil || *v == vault.Vault{}}
				if f == (faults{}) {
					continue
				}
				run(name, f, p, v, s)
			}
		}
	}
}

// wantUntouched makes a call that is refused: it tells this error, and neither the device nor the vault is another one behind it.
func wantUntouched(t *testing.T, what string, p *plate.Plate, v *vault.Vault, want api.Errno, call func() api.Errno) {
	t.Helper()
	was := p.Copy()
	if e := call(); e != want {
		t.Fatalf("%s: error %d; want %d", what, e, want)
	}
	wantAlike(t, what, p, was)
	if got, from := p.Reads(), was.Reads(); got != from {
		t.Fatalf("%s: %d reads", what, got-from)
	}
}

// 12.2, R2: the device, the superblock, the vault, the power, in this order.
func TestFormatRefused(t *testing.T) {
	eachFault(t, func(what string, f faults, p *plate.Plate, v *vault.Vault, s api.Super) {
		want := api.ErrPower
		switch {
		case f.device:
			want = api.ErrArg
		case f.super != api.OK:
			want = f.super
		case f.vault:
			want = api.ErrArg
		}
		wantUntouched(t, what, p, v, want, func() api.Errno { return journal.Format(p, v, s) })
	})
}

// 12.2, R2: the superblock and the vault, the device, the power, in this order.
func TestAnewRefused(t *testing.T) {
	eachFault(t, func(what string, f faults, p *plate.Plate, v *vault.Vault, s api.Super) {
		want := api.ErrPower
		switch {
		case f.super != api.OK:
			want = f.super
		case f.vault || f.device:
			want = api.ErrArg
		}
		wantUntouched(t, what, p, v, want, func() api.Errno { return journal.Anew(p, v, s) })
	})
}

// 12.3, R2: too many blocks, the device, the promise, the power, in this order.
func TestCommitRefused(t *testing.T) {
	ws := writes(1, upTo(24, 25)...)
	eachFault(t, func(what string, f faults, p *plate.Plate, v *vault.Vault, s api.Super) {
		want := api.ErrPower
		switch {
		case f.device:
			want = api.ErrArg
		case f.super != api.OK:
			want = f.super
		case f.vault:
			want = api.ErrArg
		}
		wantUntouched(t, what, p, v, want, func() api.Errno { return journal.Commit(p, v, nil, s) })
		wantUntouched(t, what, p, v, want, func() api.Errno { return journal.Commit(p, v, ws[3:24], s) })
		// The blocks may not be written together: that is told with the device's fault.
		wantUntouched(t, what, p, v, api.ErrArg, func() api.Errno { return journal.Commit(p, v, ws[2:24], s) })
		wantUntouched(t, what, p, v, api.ErrLong, func() api.Errno { return journal.Commit(p, v, ws, s) })
	})
}

// R2: where an error is told, nothing is hashed or sealed under the ideal vault, the power being off among them.
func TestRefusedNumbersNothing(t *testing.T) {
	eachFault(t, func(what string, f faults, p *plate.Plate, v *vault.Vault, s api.Super) {
		if f.vault || v.Hash("") != number(1, 32) {
			return
		}
		for name, call := range map[string]func(v *vault.Vault) api.Errno{
			"Format": func(v *vault.Vault) api.Errno { return journal.Format(p, v, s) },
			"Anew":   func(v *vault.Vault) api.Errno { return journal.Anew(p, v, s) },
			"Commit": func(v *vault.Vault) api.Errno { return journal.Commit(p, v, writes(1, 30, 31), s) },
		} {
			ideal := vault.Ideal()
			if e := call(ideal); e == api.OK {
				t.Fatalf("%s, %s: no error", name, what)
			}
			wantUnnumbered(t, name+", "+what, ideal)
		}
	})
}
