package report_test

import (
	"fmt"
	"math/rand"
	"reflect"
	"slices"
	"testing"

	"grapnel/api"
	"grapnel/report"
	"grapnel/vault"
)

func realVault(t testing.TB, pass string) *vault.Vault {
	t.Helper()
	v, e := vault.Real(pass, "salt", 2)
	want(t, "vault.Real", e, api.OK)
	return v
}

// onVaults runs a test under a new vault of each kind.
func onVaults(t *testing.T, run func(t *testing.T, v *vault.Vault)) {
	for name, v := range map[string]*vault.Vault{"ideal": vault.Ideal(), "real": realVault(t, "pass phrase")} {
		t.Run(name, func(t *testing.T) {
			t.Parallel()
			run(t, v)
		})
	}
}

// notGiven is vaults that neither vault.Real nor vault.Ideal gave.
func notGiven() []*vault.Vault { return []*vault.Vault{nil, {}} }

// want holds an error against the one that must be.
func want(t testing.TB, what string, e, must api.Errno) {
	t.Helper()
	if e != must {
		t.Fatalf("%s: error %d; want %d", what, e, must)
	}
}

// brief is what something looks like, as far as a line has room for it.
func brief(x any) string {
	s := fmt.Sprintf("%+v", x)
	if text, ok := x.(string); ok {
		s = fmt.Sprintf("%q", text)
	}
	return s[:min(len(s), 1500)]
}

// same holds two values against each other.
func same(t testing.TB, what string, got, must any) {
	t.Helper()
	if !reflect.DeepEqual(got, must) {
		t.Fatalf("%s: %s; want %s", what, brief(got), brief(must))
	}
}

// sameReport holds two reports against each other; an empty list is none.
func sameReport(t testing.TB, what string, got, must api.Report) {
	t.Helper()
	if !slices.Equal(got.Findings, must.Findings) {
		t.Fatalf("%s: findings %s; want %s", what, brief(got.Findings), brief(must.Findings))
	}
	got.Findings, must.Findings = nil, nil
	same(t, what, got, must)
}

// wantText holds a text and an error against what must be.
func wantText(t testing.TB, what, s string, e api.Errno, must string, mustErr api.Errno) {
	t.Helper()
	want(t, what, e, mustErr)
	if s != must {
		t.Fatalf("%s: %s; want %s", what, brief(s), brief(must))
	}
}

// wantReport holds a report and an error against what must be.
func wantReport(t testing.TB, what string, r api.Report, e api.Errno, must api.Report, mustErr api.Errno) {
	t.Helper()
	want(t, what, e, mustErr)
	sameReport(t, what, r, must)
}

// wantBytes holds Bytes of a report against the model.
func wantBytes(t testing.TB, what string, r api.Report) {
	t.Helper()
	s, e := report.Bytes(r)
	must, mustErr := bytesOf(r)
	wantText(t, "Bytes of "+what, s, e, must, mustErr)
}

// wantOf holds Of of bytes against the model.
func wantOf(t testing.TB, what, s string) {
	t.Helper()
	r, e := report.Of(s)
	must, mustErr := reportOf(s)
	wantReport(t, "Of of "+what, r, e, must, mustErr)
}

// number is a number in bytes.
func number(n, width int) string {
	b := make([]byte, width)
	for i := range b {
		b[i] = byte(n >> (8 * i))
	}
	return string(b)
}

// with is s, its byte at a place another one.
func with(s string, at int, by byte) string {
	b := []byte(s)
	b[at] ^= by
	return string(b)
}

func finding(code, a, b, c int) api.Finding { return api.Finding{Code: code, A: a, B: b, C: c} }

// many is n findings that rise.
func many(n int) []api.Finding {
	var l []api.Finding
	for i := range n {
		l = append(l, finding(1+i/64, i/16%4, i/4%4, i%4))
	}
	return l
}

// some is reports with no finding, one, and more of them.
func some() []api.Report {
	return []api.Report{
		{},
		{Volume: 7, Epoch: 1},
		{Volume: 1<<48 - 1, Epoch: 1<<48 - 1, Written: 1<<32 - 1, Findings: []api.Finding{finding(1<<16-1, 1<<32-1, 1<<32-1, 1<<32-1)}},
		{Volume: 7, Epoch: 2, Written: 3, Findings: []api.Finding{{}}},
		{Volume: 7, Epoch: 2, Written: 3, Findings: []api.Finding{finding(11, 2, 0, 0)}},
		{Volume: 0x060504030201, Epoch: 0x161514131211, Written: 0x24232221, Findings: []api.Finding{finding(0x3231, 0x44434241, 0x54535251, 0x64636261)}},
		{Volume: 7, Epoch: 2, Written: 3, Findings: many(2)},
		{Volume: 7, Epoch: 2, Written: 3, Findings: many(255)},
		{Volume: 7, Epoch: 2, Written: 3, Findings: many(256)},
		{Volume: 7, Epoch: 2, Written: 3, Findings: many(70000)},
	}
}

// drawn is a report by chance whose findings rise, its numbers small ones or up to the greatest that have room.
func drawn(r *rand.Rand) api.Report {
	upTo := func(n int) int {
		if r.Intn(2) == 0 {
			return r.Intn(3)
		}
		return r.Intn(n)
	}
	x := api.Report{Volume: upTo(1 << 48), Epoch: upTo(1 << 48), Written: upTo(1 << 32)}
	for range r.Intn(9) {
		x.Findings = append(x.Findings, finding(upTo(1<<16), upTo(1<<32), upTo(1<<32), upTo(1<<32)))
	}
	slices.SortFunc(x.Findings, ahead)
	x.Findings = slices.Compact(x.Findings)
	return x
}

func ahead(x, y api.Finding) int {
	if behind(y, x) {
		return -1
	}
	if behind(x, y) {
		return 1
	}
	return 0
}

func signed(t testing.TB, v *vault.Vault, r api.Report) string {
	t.Helper()
	s, e := report.Sign(v, r)
	want(t, "Sign", e, api.OK)
	return s
}
