package mend_test

import (
	"strings"
	"testing"

	"grapnel/api"
	"grapnel/block"
	"grapnel/mend"
	"grapnel/plate"
	"grapnel/survey"
	"grapnel/tree"
	"grapnel/vault"
)

// What the chapter says of plans and repairs, written out once more, slowly.

// sealedText is a block's bytes.
func sealedText(t testing.TB, v *vault.Vault, h api.Head, body string) string {
	t.Helper()
	head := "GRPN" + number(h.Volume, 6) + number(h.Address, 4) + number(h.Kind, 2) + number(h.Ino, 4) + number(h.Gen, 4) + number(h.Index, 4) + number(h.Version, 6) + number(h.Salt, 6) + blank(8)
	s, e := v.Seal(h.Salt, number(h.Address, 4)+number(h.Version, 6)+blank(2), head, body)
	want(t, "Seal", e, api.OK)
	return head + s
}

// superText is a superblock's block.
func superText(t testing.TB, v *vault.Vault, s api.Super) string {
	t.Helper()
	body := number(s.Volume, 6) + number(s.Epoch, 6) + number(s.Next, 6) + number(s.Live, 4) + s.Root + blank(394)
	return sealedText(t, v, api.Head{Volume: s.Volume, Address: s.Epoch % 2, Kind: 1, Version: s.Epoch, Salt: s.Epoch}, body)
}

// mustCome is the superblock to come, but for the root, and Next as the first Version.
func mustCome(x api.Evidence) api.Super {
	var ok []api.Head
	for _, r := range x.Readings {
		if r.Ok {
			ok = append(ok, r.Head)
		}
	}
	version, salt := 0, 0
	for _, h := range ok {
		version, salt = max(version, h.Version), max(salt, h.Salt)
	}
	if x.Has {
		return api.Super{Volume: x.Super.Volume, Epoch: x.Super.Epoch + 1, Next: max(x.Super.Next, version+1), Live: x.Live}
	}
	return api.Super{Volume: ok[len(ok)-1].Volume, Epoch: 1 + salt + version, Next: version + 1, Live: x.Live}
}

// mustPlan is the plan of an image in which all numbers have room.
func mustPlan(t testing.TB, v *vault.Vault, live int, im api.Image) (api.Report, []api.Write, api.Errno) {
	t.Helper()
	x, e := survey.Gather(v, live, im)
	if e != api.OK {
		return api.Report{}, nil, e
	}
	c := survey.Judge(x)
	if c.Authentic == 0 {
		return api.Report{}, nil, api.ErrRefuse
	}
	if len(c.Wants) == 0 && x.Rooted && x.Kept {
		return api.Report{Volume: x.Super.Volume, Epoch: x.Super.Epoch, Findings: c.Findings}, nil, api.OK
	}
	s := mustCome(x)
	raws := map[int]string{}
	ws := []api.Write{{Address: s.Epoch % 2}}
	for _, w := range c.Wants {
		raws[w.Address] = sealedText(t, v, api.Head{Volume: s.Volume, Address: w.Address, Kind: w.Kind, Ino: w.Ino, Gen: w.Gen, Index: w.Index, Version: s.Next, Salt: s.Epoch}, w.Body)
		ws = append(ws, api.Write{Address: w.Address, Raw: raws[w.Address]})
		s.Next++
	}
	tags := make([]string, live)
	for at := range tags {
		tags[at] = blank(16)
	}
	for _, at := range c.Used {
		if at < 27 {
			continue
		}
		raw, _ := block.At(im, at)
		if new, ok := raws[at]; ok {
			raw = new
		}
		tags[at] = raw[496:]
	}
	s.Root = tree.New(v, tags).Root()
	ws[0].Raw = superText(t, v, s)
	return api.Report{Volume: s.Volume, Epoch: s.Epoch, Written: len(ws), Findings: c.Findings}, ws, api.OK
}

// promiseText is the promise of so many blocks to be written over an image.
func promiseText(v *vault.Vault, live int, im api.Image, count int) string {
	var b strings.Builder
	for at := range live {
		b.WriteString(im.Raws[at] + number(im.Masks[at], 1))
	}
	return marked(v, "PLAN"+number(count, 4)+v.Hash(b.String()))
}

// marked is 40 bytes and their mark.
func marked(v *vault.Vault, text string) string { return text + v.Mac("plan", text) + blank(8) }

// mustStand is the plan that stands on a device, and the device as it was; false, if none does.
func mustStand(t testing.TB, v *vault.Vault, l api.Layout, im api.Image) (api.Image, []api.Write, bool) {
	t.Helper()
	none := api.Image{}
	promise := im.Raws[l.Plan][:64]
	if im.Masks[l.Plan]%2 == 1 || !v.Made("plan", promise[:40], promise[40:56]) {
		return none, nil, false
	}
	count := int(promise[4]) + int(promise[5])<<8 + int(promise[6])<<16 + int(promise[7])<<24
	if count < 1 || count > l.Live {
		return none, nil, false
	}
	was := api.Image{Raws: append([]string{}, im.Raws...), Masks: append([]int{}, im.Masks...)}
	var addresses []int
	for i := range count {
		if im.Masks[l.List+i/64] != 0 || im.Masks[l.Old+i] != 0 {
			return none, nil, false
		}
		entry := im.Raws[l.List+i/64][8*(i%64):]
		at := int(entry[0]) + int(entry[1])<<8 + int(entry[2])<<16 + int(entry[3])<<24
		if at >= l.Live || i > 0 && at <= addresses[i-1] || entry[5:8] != blank(3) {
			return none, nil, false
		}
		addresses = append(addresses, at)
		was.Raws[at], was.Masks[at] = im.Raws[l.Old+i], int(entry[4])
	}
	if promiseText(v, l.Live, was, count) != promise {
		return none, nil, false
	}
	_, ws, e := mustPlan(t, v, l.Live, was)
	if e != api.OK || len(ws) != count {
		return none, nil, false
	}
	for k, w := range ws {
		for i := range 8 {
			now := im.Raws[w.Address][64*i : 64*i+64]
			isDumb, wasDumb := im.Masks[w.Address]>>i%2 == 1, was.Masks[w.Address]>>i%2 == 1
			isWas := isDumb && wasDumb || !isDumb && !wasDumb && now == was.Raws[w.Address][64*i:64*i+64]
			isPlan := !isDumb && now == w.Raw[64*i:64*i+64]
			if w.Address != addresses[k] || !isWas && !isPlan {
				return none, nil, false
			}
		}
	}
	return was, ws, true
}

// deed is what a repair tells, and what it writes: step by step, sector by sector, each step flushed.
type deed struct {
	report api.Report
	e      api.Errno
	stands bool
	steps  [][]put
}

// put is a sector that is written.
type put struct {
	at   int
	text string
}

func cutUp(at int, raw string) []put {
	var l []put
	for i := range 8 {
		l = append(l, put{8*at + i, raw[64*i : 64*i+64]})
	}
	return l
}

// writes is how many sectors a deed writes.
func (d deed) writes() int {
	n := 0
	for _, s := range d.steps {
		n += len(s)
	}
	return n
}

// mustDo is what a repair of a device must do. The device has a living part, and power.
func mustDo(t testing.TB, v *vault.Vault, live int, p *plate.Plate) deed {
	t.Helper()
	l, im := layoutOf(t, live), block.All(p)
	was, _, stands := mustStand(t, v, l, im)
	if !stands {
		was = im
	}
	report, ws, e := mustPlan(t, v, live, was)
	d := deed{report: report, e: e, stands: stands}
	if len(ws) == 0 {
		return d
	}
	if !stands {
		var list, old, entries []put
		for i, w := range ws {
			old = append(old, cutUp(l.Old+i, was.Raws[w.Address])...)
			entries = append(entries, put{w.Address, number(w.Address, 4) + number(was.Masks[w.Address], 4)})
		}
		for i := 0; i < len(entries); i += 64 {
			text := ""
			for _, x := range entries[i:min(i+64, len(entries))] {
				text += x.text
			}
			list = append(list, cutUp(l.List+i/64, text+blank(512-len(text)))...)
		}
		d.steps = append(d.steps, append(list, old...), []put{{8 * l.Plan, promiseText(v, live, was, len(ws))}})
	}
	var blocks []put
	for _, w := range ws {
		blocks = append(blocks, cutUp(w.Address, w.Raw)...)
	}
	d.steps = append(d.steps, blocks, []put{{8 * l.Plan, blank(64)}})
	return d
}

// do does a deed on a device, as far as there is power.
func (d deed) do(p *plate.Plate) (api.Report, api.Errno) {
	for _, s := range d.steps {
		for _, x := range s {
			if e := p.Write(x.at, x.text); e != api.OK {
				return api.Report{}, e
			}
		}
		p.Flush()
	}
	return d.report, d.e
}

// repaired does a Repair, and holds it against the words: what it tells, what it writes, and what waits then. So it does with Check ahead.
func repaired(t testing.TB, what string, p *plate.Plate, v *vault.Vault, live int) (api.Report, api.Errno) {
	t.Helper()
	d := mustDo(t, v, live, p)
	was := p.Copy()
	r, e := mend.Check(p, v)
	want(t, what+": Check", e, d.e)
	sameReport(t, what+": Check", r, d.report)
	wantAlike(t, what+": Check", p, was)
	must, reads := p.Copy(), p.Reads()
	r, e = mend.Repair(p, v)
	mustReport, mustError := d.do(must)
	want(t, what+": Repair", e, mustError)
	sameReport(t, what+": Repair", r, mustReport)
	wantAlike(t, what+": Repair", p, must)
	if n := p.Reads() - reads + p.Writes() - was.Writes(); n > 256*p.Sectors()/8 {
		t.Fatalf("%s: Repair read and wrote %d sectors of %d blocks", what, n, p.Sectors()/8)
	}
	return r, e
}
