package report_test

import (
	"fmt"
	"math/rand"
	"strings"
	"testing"

	"grapnel/api"
	"grapnel/report"
	"grapnel/vault"
)

// 16.2: the bytes, and their mark for the purpose report.
func TestSign(t *testing.T) {
	onVaults(t, func(t *testing.T, v *vault.Vault) {
		for i, x := range some() {
			what := fmt.Sprintf("the report %d", i)
			s, e := report.Sign(v, x)
			wantText(t, "Sign of "+what, s, e, raw(x)+v.Mac("report", raw(x)), api.OK)
			r, e := report.Verify(v, s)
			wantReport(t, "Verify of "+what, r, e, x, api.OK)
			again, e := report.Sign(v, x)
			wantText(t, "Sign once more", again, e, s, api.OK)
		}
	})
}

// 16.2: under the ideal vault the mark is the pair's number; Sign numbers just that pair, Verify nothing.
func TestSignNumbers(t *testing.T) {
	v := vault.Ideal()
	one, two := api.Report{Volume: 1}, api.Report{Volume: 2}
	for i, c := range []struct {
		r api.Report
		n int
	}{{one, 1}, {two, 2}, {one, 1}, {two, 2}} {
		s, e := report.Sign(v, c.r)
		wantText(t, fmt.Sprintf("the call %d", i), s, e, raw(c.r)+number(c.n, 6)+strings.Repeat("\x00", 10), api.OK)
		report.Verify(v, s)
		report.Verify(v, with(s, 0, 1))
		report.Verify(v, with(s, len(s)-16, 1))
	}
	wantNumber(t, v, 3)
}

// wantNumber holds the number of the next pair that an ideal vault marks against the one that must be; it has hashed and sealed nothing.
func wantNumber(t *testing.T, v *vault.Vault, must int) {
	t.Helper()
	same(t, "the next pair that is marked", v.Mac("next", ""), number(must, 6)+strings.Repeat("\x00", 10))
	same(t, "the first text that is hashed", v.Hash("next"), number(1, 6)+strings.Repeat("\x00", 26))
	s, e := v.Seal(0, strings.Repeat("n", 12), "", "")
	wantText(t, "the first text that is sealed", s, e, number(1, 6)+strings.Repeat("\x00", 10), api.OK)
}

// wrong is reports that have no bytes, and the error that says so.
func wrong() []struct {
	r api.Report
	e api.Errno
} {
	return []struct {
		r api.Report
		e api.Errno
	}{
		{api.Report{Volume: -1}, api.ErrRange},
		{api.Report{Epoch: 1 << 48}, api.ErrRange},
		{api.Report{Findings: []api.Finding{finding(1<<16, 0, 0, 0)}}, api.ErrRange},
		{api.Report{Findings: []api.Finding{{}, {}}}, api.ErrForm},
		{api.Report{Volume: -1, Findings: []api.Finding{finding(2, 0, 0, 0), finding(1, 0, 0, 0)}}, api.ErrForm},
	}
}

// 16.2, R2: Bytes' error, and nothing is numbered then.
func TestSignOfNoReport(t *testing.T) {
	for _, c := range wrong() {
		v := vault.Ideal()
		s, e := report.Sign(v, c.r)
		wantText(t, "Sign, ideal", s, e, "", c.e)
		wantNumber(t, v, 1)
		s, e = report.Sign(realVault(t, "pass phrase"), c.r)
		wantText(t, "Sign, real", s, e, "", c.e)
	}
}

// 16.2, P1: a vault that nobody gave: Bytes' error is told ahead of it, and ErrShort ahead of ErrMac.
func TestNoVault(t *testing.T) {
	given := signed(t, realVault(t, "pass phrase"), some()[4])
	for _, v := range notGiven() {
		for _, x := range some() {
			s, e := report.Sign(v, x)
			wantText(t, "Sign", s, e, "", api.ErrArg)
			r, e := report.Verify(v, raw(x))
			wantReport(t, "Verify of bytes without a mark", r, e, api.Report{}, api.ErrMac)
			r, e = report.Verify(v, raw(x)+strings.Repeat("\x00", 16))
			wantReport(t, "Verify of a mark of bytes 0", r, e, api.Report{}, api.ErrMac)
		}
		for _, c := range wrong() {
			s, e := report.Sign(v, c.r)
			wantText(t, "Sign of no report", s, e, "", c.e)
		}
		for have := range len(given) + 1 {
			must := api.ErrMac
			if have < 16 {
				must = api.ErrShort
			}
			r, e := report.Verify(v, given[:have])
			wantReport(t, fmt.Sprintf("Verify of %d bytes", have), r, e, api.Report{}, must)
		}
	}
}

// 16.2, G5: each byte that is another one, by each of its bits, all bytes that lack, and such as were put to it.
func TestVerifyBent(t *testing.T) {
	onVaults(t, func(t *testing.T, v *vault.Vault) {
		for _, x := range []api.Report{some()[1], some()[4], {Volume: 7, Epoch: 3, Written: 5, Findings: many(6)}} {
			s := signed(t, v, x)
			for at := range len(s) {
				for bit := range 8 {
					r, e := report.Verify(v, with(s, at, 1<<bit))
					wantReport(t, fmt.Sprintf("the bit %d of the byte %d", bit, at), r, e, api.Report{}, api.ErrMac)
				}
				must := api.ErrMac
				if at < 16 {
					must = api.ErrShort
				}
				r, e := report.Verify(v, s[:at])
				wantReport(t, fmt.Sprintf("the first %d bytes", at), r, e, api.Report{}, must)
				r, e = report.Verify(v, s[:at]+"\x00"+s[at:])
				wantReport(t, fmt.Sprintf("a byte more at %d", at), r, e, api.Report{}, api.ErrMac)
			}
			for _, put := range []string{s + "\x00", "\x00" + s, s + s, s + s[len(s)-16:]} {
				r, e := report.Verify(v, put)
				wantReport(t, "bytes put to it", r, e, api.Report{}, api.ErrMac)
			}
			r, e := report.Verify(v, s)
			wantReport(t, "as it was", r, e, x, api.OK)
		}
	})
}

// 16.2: marks for another purpose, of other bytes, and of another vault.
func TestVerifyOtherMarks(t *testing.T) {
	onVaults(t, func(t *testing.T, v *vault.Vault) {
		text, other := raw(some()[4]), raw(some()[6])
		for _, purpose := range []string{"", "r", "repor", "report ", " report", "Report", "reports", "report\x00", "promise", "mark report", "mark ", "seal "} {
			r, e := report.Verify(v, text+v.Mac(purpose, text))
			wantReport(t, "a mark for the purpose "+purpose, r, e, api.Report{}, api.ErrMac)
		}
		r, e := report.Verify(v, text+v.Mac("report", other))
		wantReport(t, "the mark of other bytes", r, e, api.Report{}, api.ErrMac)
		r, e = report.Verify(v, text+v.Mac("report", text+"\x00"))
		wantReport(t, "the mark of a byte more", r, e, api.Report{}, api.ErrMac)
		r, e = report.Verify(v, text+v.Hash(text)[:16])
		wantReport(t, "a hash", r, e, api.Report{}, api.ErrMac)
		r, e = report.Verify(v, v.Mac("report", text)+text)
		wantReport(t, "the mark ahead", r, e, api.Report{}, api.ErrMac)
		r, e = report.Verify(v, text+v.Mac("report", text))
		wantReport(t, "its own mark", r, e, some()[4], api.OK)
	})
}

// 16.2, 16.3: marks of another vault: of another key, of the other kind, of an ideal one that numbered otherwise or nothing.
func TestVerifyOtherVaults(t *testing.T) {
	x := some()[4]
	otherwise := vault.Ideal()
	signed(t, otherwise, some()[1])
	signed(t, otherwise, x)
	otherSalt, e := vault.Real("pass phrase", "tlas", 2)
	want(t, "vault.Real", e, api.OK)
	otherRounds, e := vault.Real("pass phrase", "salt", 3)
	want(t, "vault.Real", e, api.OK)
	vaults := []*vault.Vault{vault.Ideal(), otherwise, realVault(t, "pass phrase"), realVault(t, "pass phrasf"), otherSalt, otherRounds}
	var told []string
	for _, v := range vaults {
		told = append(told, signed(t, v, x))
	}
	for i, v := range append(vaults, vault.Ideal()) {
		for k, s := range told {
			must, mustErr := api.Report{}, api.ErrMac
			if i == k {
				must, mustErr = x, api.OK
			}
			r, e := report.Verify(v, s)
			wantReport(t, fmt.Sprintf("signed by the vault %d, held by %d", k, i), r, e, must, mustErr)
		}
	}
	r, e := report.Verify(realVault(t, "pass phrase"), told[2])
	wantReport(t, "the same key once more", r, e, x, api.OK)
}

// 16.2: fewer than 16 bytes, just 16, and those that have a mark and are no report: Of's error.
func TestVerifyOfNoReport(t *testing.T) {
	onVaults(t, func(t *testing.T, v *vault.Vault) {
		for n := range 16 {
			r, e := report.Verify(v, strings.Repeat("\x00", n))
			wantReport(t, fmt.Sprintf("%d bytes", n), r, e, api.Report{}, api.ErrShort)
		}
		r, e := report.Verify(v, strings.Repeat("\x00", 16))
		wantReport(t, "16 bytes that are no mark", r, e, api.Report{}, api.ErrMac)
		r, e = report.Verify(v, v.Mac("report", ""))
		wantReport(t, "16 bytes that are the mark of none", r, e, api.Report{}, api.ErrShort)
		twice := raw(api.Report{Findings: []api.Finding{{}, {}}})
		for _, c := range []struct {
			text string
			e    api.Errno
		}{
			{"", api.ErrShort}, {"abc", api.ErrShort}, {raw(api.Report{})[:19], api.ErrShort}, {raw(api.Report{}), api.OK}, {raw(api.Report{}) + "\x00", api.ErrLong},
			{raw(some()[4])[:33], api.ErrShort}, {raw(some()[4]) + "\x00", api.ErrLong}, {twice, api.ErrForm}, {twice[:47], api.ErrShort}, {twice + "x", api.ErrLong},
		} {
			r, e := report.Verify(v, c.text+v.Mac("report", c.text))
			must, mustErr := reportOf(c.text)
			want(t, "the model", mustErr, c.e)
			wantReport(t, "a mark of "+brief(c.text), r, e, must, c.e)
			r, e = report.Verify(v, c.text+v.Mac("another", c.text))
			wantReport(t, "a wrong mark, ahead of Of's error", r, e, api.Report{}, api.ErrMac)
		}
	})
}

// 16.3: under the ideal vault Verify takes just what Sign told: parts of what was told, put together anew, are taken just if they were told.
func TestVerifyTakesJustWhatWasSigned(t *testing.T) {
	r := rand.New(rand.NewSource(5))
	for range 60 {
		v := vault.Ideal()
		told := map[string]api.Report{}
		var texts, marks []string
		for range 1 + r.Intn(12) {
			x := drawn(r)
			texts = append(texts, raw(x))
			if r.Intn(3) == 0 {
				continue // nobody signs it
			}
			s := signed(t, v, x)
			told[s] = x
			marks = append(marks, s[len(s)-16:])
		}
		marks = append(marks, strings.Repeat("\x00", 16), number(len(marks)+1, 16))
		for _, text := range texts {
			for _, mark := range marks {
				x, e := report.Verify(v, text+mark)
				must, ok := told[text+mark]
				if !ok {
					wantReport(t, "what nobody signed", x, e, api.Report{}, api.ErrMac)
					continue
				}
				wantReport(t, "what was signed", x, e, must, api.OK)
			}
		}
	}
}

// R3: Sign leaves what is handed in as it is, and what Verify hands out is the asker's own.
func TestSignSharesNothing(t *testing.T) {
	onVaults(t, func(t *testing.T, v *vault.Vault) {
		room := many(7)
		s := signed(t, v, api.Report{Volume: 7, Findings: room[:5]})
		same(t, "handed in", room, many(7))
		clear(room)
		must := api.Report{Volume: 7, Findings: many(5)}
		a, e := report.Verify(v, s)
		wantReport(t, "Verify", a, e, must, api.OK)
		clear(a.Findings[:cap(a.Findings)])
		b, e := report.Verify(v, s)
		wantReport(t, "Verify once more", b, e, must, api.OK)
	})
}
