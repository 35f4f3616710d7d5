package mend_test

import (
	"testing"

	"grapnel/api"
	"grapnel/block"
	"grapnel/mend"
	"grapnel/pack"
	"grapnel/plate"
	"grapnel/vault"
)

// calls is both calls on a device.
func calls() map[string]func(*plate.Plate, *vault.Vault) (api.Report, api.Errno) {
	return map[string]func(*plate.Plate, *vault.Vault) (api.Report, api.Errno){"Repair": mend.Repair, "Check": mend.Check}
}

// wantRefused is that both calls tell an error, and nothing is written.
func wantRefused(t testing.TB, what string, p *plate.Plate, v *vault.Vault, must api.Errno) {
	t.Helper()
	was := p.Copy()
	for name, call := range calls() {
		r, e := call(p, v)
		want(t, what+": "+name, e, must)
		sameReport(t, what+": "+name, r, api.Report{})
		if p != nil {
			wantAlike(t, what+": "+name, p, was)
		}
	}
}

// 15.2, 15.3: no power, no living part, nothing authentic, in this order.
func TestRefused(t *testing.T) {
	onVaults(t, func(t *testing.T, v *vault.Vault) {
		for _, w := range append(notGiven(), v) {
			wantRefused(t, "nil", nil, w, api.ErrPower)
			wantRefused(t, "zero", &plate.Plate{}, w, api.ErrPower)
			for _, n := range []int{0, 1, 8, 776, 783, 785, 792, 800, 32768} {
				wantRefused(t, "another size", newDevice(t, n), w, api.ErrRefuse)
				if n > 0 {
					wantRefused(t, "another size, off", cut(newDevice(t, n)), w, api.ErrPower)
				}
			}
			wantRefused(t, "bytes 0", newDevice(t, 784), w, api.ErrRefuse)
			wantRefused(t, "bytes 0, off", cut(newDevice(t, 784)), w, api.ErrPower)
		}
		p := stored(t, v, 48)
		overwrite(t, p, 28)
		wantRefused(t, "off", cut(p.Copy()), v, api.ErrPower)
		for _, w := range append(notGiven(), vault.Ideal(), realOther(t)) {
			wantRefused(t, "another vault", p, w, api.ErrRefuse)
		}
		repair(t, "its own vault", p, v)
		overwrite(t, p, 2)
		overwrite(t, p, upTo(27, 21)...)
		wantRefused(t, "superblocks", p, v, api.ErrRefuse)
		for at := range 98 {
			for i := range 8 {
				all(t, p.Spoil(8*at+i))
			}
		}
		wantRefused(t, "spoilt", p, v, api.ErrRefuse)
	})
}

// 15.2: just the sectors of a layout are a device's.
func TestSizes(t *testing.T) {
	v := vault.Ideal()
	for _, live := range []int{48, 49, 64, 65, 127, 128, 1023, 1024} {
		l := layoutOf(t, live)
		p := made(t, v, live)
		overwrite(t, p, l.Nodes, l.Table+2)
		r, e := repaired(t, "a layout's", p, v, live)
		want(t, "a layout's", e, api.OK)
		if r.Written != 3 || r.Epoch != 1 || r.Volume != 7 {
			t.Fatalf("of %d blocks: %v", live, r)
		}
		wantWhole(t, "a layout's", p, v)
	}
}

// 15.2: a plan stands on a device on which nothing is authentic any more: what it was counts.
func TestNothingButPlan(t *testing.T) {
	onVaults(t, func(t *testing.T, v *vault.Vault) {
		p := stored(t, v, 48)
		l := layoutOf(t, 48)
		// The root's inode alone is authentic, and says something else than it must.
		r := block.Load(p, v, l.Table)
		i, e := pack.InodeOf(r.Body)
		all(t, e)
		i.Links = 5
		body, e := pack.Inode(i)
		all(t, e)
		layAt(t, p, l.Table, sealedText(t, v, r.Head, body))
		overwrite(t, p, upTo(0, l.Table)...)
		overwrite(t, p, upTo(l.Table+1, 47-l.Table)...)
		whole := p.Copy()
		report := repair(t, "undisturbed", whole, v)
		if n := whole.Writes() - p.Writes(); report.Written != 11 || n != 8+8*11+1+8*11+1 {
			t.Fatalf("%v, %d writes", report, n)
		}
		// Of each block every other sector is written.
		all(t, p.Arm(8+8*11+1+8*11-1))
		_, e = mend.Repair(p, v)
		want(t, "cut off", e, api.ErrPower)
		p.Start(each(2, 0, p.Pending()))
		_, _, e = mend.Plan(v, 48, block.All(p))
		want(t, "of what is there", e, api.ErrRefuse)
		again, e := repaired(t, "at last", p, v, 48)
		want(t, "at last", e, api.OK)
		sameReport(t, "at last", again, report)
		wantKept(t, "at last", p, whole, 8*48)
		// Without the promise there is nothing.
		all(t, p.Spoil(8*l.Plan))
		overwrite(t, p, upTo(27, 21)...)
		wantRefused(t, "without a promise", p, v, api.ErrRefuse)
	})
}
