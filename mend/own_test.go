package mend_test

import (
	"slices"
	"testing"
	"unsafe"

	"grapnel/api"
	"grapnel/block"
	"grapnel/mend"
	"grapnel/vault"
)

// shares tells whether two texts share memory.
func shares(a, b string) bool {
	from, to := uintptr(unsafe.Pointer(unsafe.StringData(a))), uintptr(unsafe.Pointer(unsafe.StringData(b)))
	return a != "" && b != "" && from < to+uintptr(len(b)) && to < from+uintptr(len(a))
}

// R3: lists that are handed in stay as they are, behind their ends, too; what is answered is the asker's own.
func TestOwn(t *testing.T) {
	onVaults(t, func(t *testing.T, v *vault.Vault) {
		im := block.All(harmed(t, v).was)
		raws, masks := append(slices.Clone(im.Raws), "behind"), append(slices.Clone(im.Masks), 99)
		in := api.Image{Raws: raws[:len(im.Raws)], Masks: masks[:len(im.Masks)]}
		r, ws, e := mend.Plan(v, standLive, in)
		want(t, "Plan", e, api.OK)
		same(t, "the bytes", raws, append(slices.Clone(im.Raws), "behind"))
		same(t, "the masks", masks, append(slices.Clone(im.Masks), 99))
		for i, w := range ws {
			for _, raw := range in.Raws {
				if shares(w.Raw, raw) {
					t.Fatalf("the block %d shares memory with the image", i)
				}
			}
			for k := range i {
				if shares(w.Raw, ws[k].Raw) {
					t.Fatalf("the blocks %d and %d share memory", k, i)
				}
			}
		}
		must, mustBlocks := slices.Clone(r.Findings), slices.Clone(ws)
		for i := range r.Findings {
			r.Findings[i].Code = 99
		}
		clear(ws)
		again, blocks, e := mend.Plan(v, standLive, in)
		want(t, "Plan", e, api.OK)
		same(t, "the findings again", again.Findings, must)
		same(t, "the blocks again", blocks, mustBlocks)
	})
}

// R3: a report is the asker's own, whether a plan stands or not.
func TestOwnReport(t *testing.T) {
	v := vault.Ideal()
	b := harmed(t, v)
	for _, p := range []func() (r api.Report){
		func() api.Report { r, _ := mend.Check(b.was, v); return r },
		func() api.Report { r, _ := mend.Check(b.done(), v); return r },
		func() api.Report { return repair(t, "again", b.was.Copy(), v) },
		func() api.Report { return repair(t, "again", b.half(), v) },
	} {
		for range 2 {
			r := p()
			sameReport(t, "the report", r, b.report)
			clear(r.Findings)
		}
	}
}

// R4: what is told and written hangs on the device and the vault alone.
func TestAgain(t *testing.T) {
	for _, s := range scenes() {
		first := vault.Ideal()
		p := s.made(t, first)
		report := repair(t, s.name, p, first)
		for range 3 {
			v := vault.Ideal()
			q := s.made(t, v)
			sameReport(t, s.name, repair(t, s.name, q, v), report)
			wantKept(t, s.name, q, p, p.Sectors())
		}
	}
}

// 15.1, R1: images that are no device's: without bytes or masks for blocks, or with others than there may be.
func TestImages(t *testing.T) {
	onVaults(t, func(t *testing.T, v *vault.Vault) {
		full := block.All(stored(t, v, 48))
		full.Masks[28], full.Masks[31] = 1, 128
		for n := range 49 {
			for _, m := range []int{0, n / 2, 48} {
				im := api.Image{Raws: full.Raws[:n], Masks: full.Masks[:m]}
				r, ws, e := mend.Plan(v, 48, im)
				mustReport, must, mustError := mustPlan(t, v, 48, im)
				want(t, "Plan", e, mustError)
				sameReport(t, "Plan", r, mustReport)
				same(t, "Plan", ws, must)
			}
		}
		for _, raw := range []string{"", "x", blank(511), blank(513), full.Raws[40] + "x"} {
			for _, at := range []int{0, 1, 2, 27, 28, 29, 36, 40} {
				im := api.Image{Raws: slices.Clone(full.Raws), Masks: slices.Clone(full.Masks)}
				im.Raws[at] = raw
				planned(t, "other bytes", v, 48, im)
				im.Masks[at] = -1
				planned(t, "other masks", v, 48, im)
				im.Masks[at] = 1 << 40
				planned(t, "other masks", v, 48, im)
			}
		}
	})
}
