package report_test

import (
	"strings"
	"testing"

	"grapnel/api"
	"grapnel/chart"
	"grapnel/mend"
	"grapnel/plate"
	"grapnel/report"
	"grapnel/vault"
	"grapnel/vfs"
)

// The chapter's example.
func TestExample(t *testing.T) {
	s, e := report.Bytes(api.Report{Volume: 7, Epoch: 1})
	wantText(t, "Bytes", s, e, "\x07\x00\x00\x00\x00\x00\x01"+strings.Repeat("\x00", 13), api.OK)
}

// G5: what a repair tells is signed, and comes back as it was; here the eighth of the whole's ten examples.
func TestRepairsReport(t *testing.T) {
	onVaults(t, func(t *testing.T, v *vault.Vault) {
		l, e := chart.Layout(48)
		want(t, "chart.Layout", e, api.OK)
		p, e := plate.New(8 * l.Total)
		want(t, "plate.New", e, api.OK)
		want(t, "vfs.Make", vfs.Make(p, v, 7), api.OK)
		want(t, "Lay", p.Lay(8*l.Nodes+1, strings.Repeat("x", 64)), api.OK)
		r, e := mend.Repair(p, v)
		want(t, "Repair", e, api.OK)
		sameReport(t, "Repair", r, api.Report{Volume: 7, Epoch: 1, Written: 2, Findings: []api.Finding{finding(11, 2, 0, 0)}})
		told, e := report.Verify(v, signed(t, v, r))
		wantReport(t, "Verify", told, e, r, api.OK)
	})
}
