package mend_test

import (
	"strings"
	"testing"

	"grapnel/api"
	"grapnel/block"
	"grapnel/mend"
	"grapnel/vault"
)

// 'Examples' 1: of what a file system wrote and left.
func TestExampleLeft(t *testing.T) {
	onVaults(t, func(t *testing.T, v *vault.Vault) {
		for _, live := range []int{48, 64, 160} {
			p := stored(t, v, live)
			was := p.Copy()
			for name, call := range calls() {
				r, e := call(p, v)
				want(t, name, e, api.OK)
				sameReport(t, name, r, api.Report{Volume: 7, Epoch: superOn(t, v, p, live).Epoch})
				wantAlike(t, name, p, was)
			}
		}
	})
}

// 'Examples' 2: a device of bytes 0.
func TestExampleBlank(t *testing.T) {
	onVaults(t, func(t *testing.T, v *vault.Vault) {
		for _, live := range []int{48, 1024} {
			wantRefused(t, "bytes 0", newDevice(t, 8*layoutOf(t, live).Total), v, api.ErrRefuse)
		}
	})
}

// The eighth example of the whole: one sector of the grid of inodes is overwritten; that grid is written, and a superblock.
func TestExampleGrid(t *testing.T) {
	onVaults(t, func(t *testing.T, v *vault.Vault) {
		p := made(t, v, 48)
		all(t, p.Lay(8*28, strings.Repeat("x", 64)))
		r, e := mend.Repair(p, v)
		want(t, "Repair", e, api.OK)
		sameReport(t, "Repair", r, api.Report{Volume: 7, Epoch: 1, Written: 2, Findings: []api.Finding{{Code: 11, A: 2}}})
		if h := block.Load(p, v, 28); !h.Ok || h.Head != (api.Head{Volume: 7, Address: 28, Kind: 4, Version: 11, Salt: 1}) {
			t.Fatalf("the grid: %v", h)
		}
		// What was promised and written over stays where it was told, but for the promise itself.
		list, old := block.Load(p, v, 49), block.Load(p, v, 51)
		if s, _ := p.Held(8 * 48); s != blank(64) || list.Ok || old.Ok {
			t.Fatalf("the promise is %q", s)
		}
		if s, _ := p.Held(8 * 49); s != number(1, 4)+blank(4)+number(28, 4)+blank(52) {
			t.Fatalf("the list is %q", s)
		}
		if s, _ := p.Held(8 * 51); s != strings.Repeat("x", 64) {
			t.Fatalf("what was written over is %q", s)
		}
		if l := wantWhole(t, "Repair", p, v); len(l) != 2 || l[1].Path != "/lost+found" {
			t.Fatalf("there is %v", l)
		}
	})
}

// Words, 'its list': sectors that could not be read are told, as bytes 0 of the old blocks; all of them are written over.
func TestDumbSectors(t *testing.T) {
	onVaults(t, func(t *testing.T, v *vault.Vault) {
		p := stored(t, v, 48)
		overwrite(t, p, 2)
		x := superOn(t, v, p, 48)
		masks := []int{1, 128, 0x55, 0xaa, 255, 18}
		for k, mask := range masks {
			for i := range 8 {
				if mask>>i%2 == 1 {
					all(t, p.Spoil(8*(27+k)+i))
				}
			}
		}
		was := block.All(p)
		r, e := repaired(t, "spoilt", p, v, 48)
		want(t, "spoilt", e, api.OK)
		im := block.All(p)
		list := number((x.Epoch+1)%2, 4) + blank(4)
		for k, mask := range masks {
			list += number(27+k, 4) + number(mask, 4)
			if im.Raws[50+1+k] != was.Raws[27+k] || im.Masks[27+k] != 0 || !block.Load(p, v, 27+k).Ok {
				t.Fatalf("the block %d: %v", 27+k, im.Masks[27+k])
			}
		}
		if got := im.Raws[49][:len(list)]; got != list || r.Written < 1+len(masks) {
			t.Fatalf("the list is %x; want %x", got, list)
		}
		wantWhole(t, "spoilt", p, v)
	})
}
