package survey_test

import (
	"strings"
	"testing"

	"grapnel/api"
	"grapnel/block"
	"grapnel/survey"
	"grapnel/vault"
)

// The chapter's example: an empty file system whose grid of inodes is overwritten, its first sector, and all of it.
func TestExample(t *testing.T) {
	onVaults(t, func(t *testing.T, v *vault.Vault) {
		for _, live := range []int{48, 160, 1024} {
			p := made(t, v, live)
			l := layoutOf(t, live)
			grid := api.Want{Address: 28, Kind: api.KindInodes, Body: gridText(t, l.Inodes, 0, 1)}
			for i := range 8 {
				all(t, p.Lay(8*28+i, strings.Repeat("x", 64)))
				x := wantEvidence(t, "the example", v, live, block.All(p))
				c := judged(t, "the example", x)
				// The tag is in the last sector.
				must := []api.Finding{f(11, 2)}
				if i == 7 {
					must = []api.Finding{f(2), f(11, 2)}
				}
				same(t, "the example: Findings", c.Findings, must)
				same(t, "the example: Wants", c.Wants, []api.Want{grid})
				same(t, "the example: Used", c.Used, upTo(0, l.Data))
				settled(t, "the example", x, c)
			}
		}
	})
}

// R4: what is told hangs on the evidence alone, on no order of a map.
func TestAgain(t *testing.T) {
	_, x := stored(t, vault.Ideal())
	s := newScene(t, x)
	s.lose(27, 51, singleOfA, firstOfA, s.nodeAt(inoD))
	s.x.Stale = upTo(0, 160)
	first := survey.Judge(s.x)
	for range 50 {
		same(t, "once more", survey.Judge(s.x), first)
	}
}
