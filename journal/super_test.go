package journal_test

import (
	"math"
	"slices"
	"testing"

	"grapnel/api"
	"grapnel/journal"
	"grapnel/plate"
	"grapnel/vault"
)

func wantLive(t *testing.T, what string, p *plate.Plate, want int) {
	t.Helper()
	wantError := api.OK
	if want == 0 {
		wantError = api.ErrSuper
	}
	if n, e := journal.Live(p); n != want || e != wantError {
		t.Fatalf("Live, %s: %d, error %d; want %d, error %d", what, n, e, want, wantError)
	}
}

// 12.1: each size from 48 to 1024 has its device, on or off; with a sector or a block more or less there is none.
func TestLive(t *testing.T) {
	var right []int
	for live := 48; live <= 1024; live++ {
		right = append(right, sectors(live))
		p := newDevice(t, sectors(live))
		wantLive(t, "a device of its own", p, live)
		if live%100 == 0 {
			wantLive(t, "the power off", cut(p), live)
		}
	}
	for _, live := range []int{48, 49, 63, 64, 65, 127, 128, 129, 500, 1023, 1024} {
		for _, more := range []int{-16, -9, -8, -7, -1, 1, 7, 8, 9, 16} {
			n := sectors(live) + more
			if !slices.Contains(right, n) {
				wantLive(t, "a device too great or too small", newDevice(t, n), 0)
			}
		}
	}
	if sectors(48) != 784 || sectors(1024) != 16520 {
		t.Fatalf("of 48 blocks %d sectors, of 1024 %d", sectors(48), sectors(1024))
	}
}

// 12.1: sizes beyond the bounds, none, and no device.
func TestNoLive(t *testing.T) {
	wantLive(t, "no device", nil, 0)
	wantLive(t, "a device that no call made", &plate.Plate{}, 0)
	for _, n := range []int{0, 1, 8, 48, 64, 98, 384, 32767, 32768} {
		wantLive(t, "another size", newDevice(t, n), 0)
	}
	for _, live := range []int{0, 1, 46, 47, 1025, 1026, 2000} {
		wantLive(t, "a layout that is none", newDevice(t, sectors(live)), 0)
	}
}

// wideSupers is superblocks of numbers at their bounds. Super asks for no layout.
func wideSupers() []api.Super {
	const six, four = 1<<48 - 1, 1<<32 - 1
	return []api.Super{
		{Root: blank(32)},
		super(0, 48), super(1, 48), super(2, 49), super(3, 1024), super(300, 0),
		{Volume: six, Epoch: six, Next: six, Live: four, Root: root(six)},
		{Volume: six, Epoch: six - 1, Root: root(1)},
		{Volume: 0x060504030201, Epoch: 0x161514131211, Next: 0x262524232221, Live: 0x34333231, Root: root(2)},
		{Next: six, Root: root(3)}, {Live: four, Root: root(4)}, {Epoch: 1 << 40, Root: root(5)},
	}
}

// 12.1, 'Words': the block of a superblock, in the slot of its Epoch.
func TestSuper(t *testing.T) {
	onVaults(t, func(t *testing.T, v *vault.Vault) {
		for _, s := range wideSupers() {
			got, e := journal.Super(v, s)
			if want := superBlock(t, v, s); got != want || e != api.OK {
				t.Fatalf("Super(%v): %d, %x, error %d; want %d, %x", s, got.Address, got.Raw, e, want.Address, want.Raw)
			}
			if got.Address != s.Epoch&1 || len(got.Raw) != 512 {
				t.Fatalf("Super(%v): at %d, %d bytes", s, got.Address, len(got.Raw))
			}
		}
	})
}

// wrongSupers is superblocks of 48 blocks that pack refuses, and its error; a wrong root is told first.
func wrongSupers() map[api.Super]api.Errno {
	out := map[api.Super]api.Errno{}
	for _, n := range []int{0, 1, 31, 33, 64} {
		s := super(1, 48)
		s.Root = blank(n)
		out[s] = api.ErrArg
		s.Epoch, s.Volume = -1, 1<<48
		out[s] = api.ErrArg
	}
	for _, n := range []int{-1, -2, 1 << 48, math.MinInt, math.MaxInt} {
		for i := range 3 {
			s := super(1, 48)
			*[]*int{&s.Volume, &s.Epoch, &s.Next}[i] = n
			out[s] = api.ErrRange
		}
	}
	return out
}

func wantNoSuper(t *testing.T, v *vault.Vault, s api.Super, want api.Errno) {
	t.Helper()
	if w, e := journal.Super(v, s); w != (api.Write{}) || e != want {
		t.Fatalf("Super(%v): %v, error %d; want nothing, error %d", s, w, e, want)
	}
}

// 12.1: pack.Super's error ahead of the vault's; nothing is numbered then.
func TestSuperRefused(t *testing.T) {
	wrong := wrongSupers()
	for _, live := range []int{-1, 1 << 32, math.MinInt, math.MaxInt} {
		wrong[super(1, live)] = api.ErrRange
	}
	ideal := vault.Ideal()
	for s, want := range wrong {
		for _, v := range append(notGiven(), ideal, realVault(t)) {
			wantNoSuper(t, v, s, want)
		}
	}
	wantUnnumbered(t, "superblocks that were refused", ideal)
	for _, s := range wideSupers() {
		for _, v := range notGiven() {
			wantNoSuper(t, v, s, api.ErrArg)
		}
	}
}

// readings is what a slot may tell: nothing, superblocks of many ages, and what is none though it is near one.
func readings() []api.Reading {
	of := func(s api.Super) api.Reading {
		return api.Reading{Ok: true, Head: api.Head{Kind: 1}, Body: superText(s) + blank(394)}
	}
	out := []api.Reading{{}, {Ok: true}, {Ok: true, Head: api.Head{Kind: 1}}}
	for _, epoch := range []int{0, 1, 2, 3, 4, 5, 1<<48 - 2, 1<<48 - 1} {
		out = append(out, of(super(epoch, 48)))
	}
	for _, epoch := range []int{6, 7} {
		out = append(out, of(super(epoch, 49)), of(super(epoch, 0)), of(super(epoch, 1<<32-1)))
		r := of(super(epoch, 48))
		dumb, kind, none, short, long, behind := r, r, r, r, r, r
		dumb.Ok = false
		kind.Head.Kind, none.Head.Kind = 2, 0
		short.Body, long.Body = r.Body[:447], r.Body+"\x00"
		behind.Body = with(r.Body, 447)
		out = append(out, dumb, kind, none, short, long, behind)
	}
	// Of the head its kind alone is asked.
	other := of(api.Super{Volume: 9, Epoch: 2, Next: 1, Live: 48, Root: root(77)})
	other.Head = api.Head{Volume: 1, Address: 5, Kind: 1, Ino: 2, Gen: 3, Index: 4, Version: 5, Salt: 6}
	return append(out, other)
}

func wantChosen(t *testing.T, l []api.Reading, live int) {
	t.Helper()
	want, wantOk := chosen(l, live)
	if s, ok := journal.Choose(l, live); s != want || ok != wantOk {
		t.Fatalf("Choose(%v, %d): %v, %t; want %v, %t", l, live, s, ok, want, wantOk)
	}
}

// 12.1: of none, of one, of two readings, whichever they are; more are not looked at.
func TestChoose(t *testing.T) {
	all := readings()
	newest := all[9:11]
	for _, live := range []int{48, 49, 0, 1<<32 - 1, -1, math.MinInt, math.MaxInt} {
		wantChosen(t, nil, live)
		wantChosen(t, []api.Reading{}, live)
		for _, a := range all {
			wantChosen(t, []api.Reading{a}, live)
			for _, b := range all {
				wantChosen(t, []api.Reading{a, b}, live)
				l := append([]api.Reading{a, b}, newest...)
				wantChosen(t, l, live)
				wantChosen(t, l[:2], live)
			}
		}
	}
}

// 12.1: each case by itself, told in full.
func TestChooseCases(t *testing.T) {
	of := func(epoch int) api.Reading {
		return api.Reading{Ok: true, Head: api.Head{Kind: 1}, Body: superText(super(epoch, 48)) + blank(394)}
	}
	for _, c := range []struct {
		l     []api.Reading
		epoch int // -1: none is chosen
	}{
		{nil, -1},
		{[]api.Reading{{}, {}}, -1},
		{[]api.Reading{of(0)}, 0},
		{[]api.Reading{of(1)}, -1},
		{[]api.Reading{of(4), {}}, 4},
		{[]api.Reading{{}, of(5)}, 5},
		{[]api.Reading{{}, of(4)}, -1},
		{[]api.Reading{of(4), of(5)}, 5},
		{[]api.Reading{of(6), of(5)}, 6},
		{[]api.Reading{of(5), of(4)}, -1},
		{[]api.Reading{of(4), of(4)}, 4},
		{[]api.Reading{of(5), of(5)}, 5},
		{[]api.Reading{of(4), of(6)}, 4},
		{[]api.Reading{{}, {}, of(4), of(5)}, -1},
	} {
		s, ok := journal.Choose(c.l, 48)
		if want := super(c.epoch, 48); c.epoch >= 0 && (s != want || !ok) || c.epoch < 0 && (s != api.Super{} || ok) {
			t.Errorf("Choose(%v): %v, %t; want the Epoch %d", c.l, s, ok, c.epoch)
		}
	}
}

// 12.1: a superblock is chosen again out of what Super made; R3: its root is new memory, and the readings stay.
func TestChooseIsNew(t *testing.T) {
	onVaults(t, func(t *testing.T, v *vault.Vault) {
		l := make([]api.Reading, 2, 4)
		for _, epoch := range []int{8, 9} {
			w, _ := journal.Super(v, super(epoch, 48))
			l[epoch%2] = opened(v, w.Raw, 0, w.Address)
		}
		behind := l[:4]
		behind[2] = l[0]
		was := slices.Clone(behind)
		s, ok := journal.Choose(l, 48)
		if s != super(9, 48) || !ok || sameMemory(s.Root, l[1].Body) {
			t.Fatalf("Choose: %v, %t", s, ok)
		}
		if !slices.Equal(behind, was) {
			t.Fatalf("the readings: %v; were %v", behind, was)
		}
	})
}
