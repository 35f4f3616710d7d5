package journal_test

import (
	"slices"
	"strings"
	"testing"

	"grapnel/api"
	"grapnel/block"
	"grapnel/plate"
	"grapnel/vault"
)

// What the chapters' words say of bytes and places, beside the program's own packages: of these the vault and the device alone are made use of.

const (
	log    = 3  // the first record of the journal
	blocks = 27 // the first address that may be committed
)

// sectors is how many a device has whose living part has so many blocks: these, a plan's commit and list, as many old blocks.
func sectors(live int) int { return 8 * (live + 1 + (live+63)/64 + live) }

// layout is what Found goes by.
func layout(live int) api.Layout { return api.Layout{Live: live, Log: log, Blocks: blocks} }

// number is n in so many bytes.
func number(n, width int) string {
	b := make([]byte, width)
	for i := range b {
		b[i] = byte(n >> (8 * i))
	}
	return string(b)
}

// field is the number in the next bytes of a text, which go.
func field(s *string, width int) int {
	n := 0
	for i := range width {
		n += int((*s)[i]) << (8 * i)
	}
	*s = (*s)[width:]
	return n
}

func blank(n int) string { return strings.Repeat("\x00", n) }

func headText(h api.Head) string {
	return "GRPN" + number(h.Volume, 6) + number(h.Address, 4) + number(h.Kind, 2) + number(h.Ino, 4) + number(h.Gen, 4) + number(h.Index, 4) + number(h.Version, 6) + number(h.Salt, 6) + blank(8)
}

func headOf(s string) (api.Head, bool) {
	if s[:4] != "GRPN" || s[40:] != blank(8) {
		return api.Head{}, false
	}
	s = s[4:]
	return api.Head{Volume: field(&s, 6), Address: field(&s, 4), Kind: field(&s, 2), Ino: field(&s, 4), Gen: field(&s, 4), Index: field(&s, 4), Version: field(&s, 6), Salt: field(&s, 6)}, true
}

// superText is the first 54 bytes of a superblock's body.
func superText(s api.Super) string {
	return number(s.Volume, 6) + number(s.Epoch, 6) + number(s.Next, 6) + number(s.Live, 4) + s.Root
}

func superOf(s string) (api.Super, bool) {
	if len(s) != 448 || s[54:] != blank(394) {
		return api.Super{}, false
	}
	return api.Super{Volume: field(&s, 6), Epoch: field(&s, 6), Next: field(&s, 6), Live: field(&s, 4), Root: s[:32]}, true
}

// sealed is a block of a head and a body, filled up with bytes 0.
func sealed(t *testing.T, v *vault.Vault, h api.Head, body string) string {
	t.Helper()
	body += blank(448 - len(body))
	s, e := v.Seal(h.Salt, number(h.Address, 4)+number(h.Version, 6)+blank(2), headText(h), body)
	if e != api.OK {
		t.Fatalf("the vault's Seal for %v: error %d", h, e)
	}
	return headText(h) + s
}

// opened is the reading that bytes are at an address.
func opened(v *vault.Vault, raw string, mask, at int) api.Reading {
	h, ok := headOf(raw[:48])
	if mask != 0 || !ok || h.Address != at {
		return api.Reading{}
	}
	body, e := v.Open(h.Salt, number(h.Address, 4)+number(h.Version, 6)+blank(2), raw[:48], raw[48:])
	if e != api.OK {
		return api.Reading{}
	}
	return api.Reading{Ok: true, Head: h, Body: body}
}

// superBlock is a superblock's block, by 'Words'.
func superBlock(t *testing.T, v *vault.Vault, s api.Super) api.Write {
	t.Helper()
	at := s.Epoch % 2
	return api.Write{Address: at, Raw: sealed(t, v, api.Head{Volume: s.Volume, Address: at, Kind: 1, Version: s.Epoch, Salt: s.Epoch}, superText(s))}
}

// raws is all bytes of blocks, one behind the other.
func raws(ws []api.Write) string {
	s := ""
	for _, w := range ws {
		s += w.Raw
	}
	return s
}

func promiseText(v *vault.Vault, ws []api.Write, next api.Super) string {
	return number(len(ws), 2) + v.Hash(raws(ws)) + superText(next)
}

// promiseBlock is the promise of blocks with a superblock, by 'Words'.
func promiseBlock(t *testing.T, v *vault.Vault, ws []api.Write, next api.Super) api.Write {
	t.Helper()
	return promiseOf(t, v, promiseText(v, ws, next), next)
}

// promiseOf is a block such as a promise is, of any body.
func promiseOf(t *testing.T, v *vault.Vault, body string, next api.Super) api.Write {
	t.Helper()
	return api.Write{Address: 2, Raw: sealed(t, v, api.Head{Volume: next.Volume, Address: 2, Kind: 2, Version: next.Epoch, Salt: next.Epoch}, body)}
}

// mayTogether tells whether blocks may be written together, by 'Words'.
func mayTogether(l api.Layout, ws []api.Write) bool {
	for i, w := range ws {
		if i >= 24 || i > 0 && w.Address <= ws[i-1].Address || w.Address < l.Blocks || w.Address >= l.Live || len(w.Raw) != 512 {
			return false
		}
		if h, ok := headOf(w.Raw[:48]); !ok || h.Address != w.Address {
			return false
		}
	}
	return true
}

// chosen is what Choose tells, by 12.1.
func chosen(l []api.Reading, live int) (api.Super, bool) {
	var right []api.Super
	for slot, r := range l[:min(2, len(l))] {
		if s, ok := superOf(r.Body); r.Ok && r.Head.Kind == 1 && ok && s.Epoch%2 == slot && s.Live == live {
			right = append(right, s)
		}
	}
	if len(right) == 0 {
		return api.Super{}, false
	}
	return slices.MaxFunc(right, func(a, b api.Super) int { return a.Epoch - b.Epoch }), true
}

// at is a block of an image, if it can be read.
func at(im api.Image, address int) (string, bool) {
	if address < 0 || address >= len(im.Raws) || address >= len(im.Masks) || len(im.Raws[address]) != 512 || im.Masks[address] != 0 {
		return "", false
	}
	return im.Raws[address], true
}

// promised is what Found tells, by 12.4.
func promised(v *vault.Vault, l api.Layout, im api.Image) ([]api.Write, api.Super, bool) {
	raw, ok := at(im, 2)
	if !ok {
		return nil, api.Super{}, false
	}
	r := opened(v, raw, 0, 2)
	if !r.Ok || r.Head.Kind != 2 {
		return nil, api.Super{}, false
	}
	text := r.Body
	count := field(&text, 2)
	hash, text := text[:32], text[32:]
	next, ok := superOf(text + blank(34))
	if count > 24 || !ok || next.Live != l.Live {
		return nil, api.Super{}, false
	}
	var ws []api.Write
	for i := range count {
		raw, ok := at(im, l.Log+i)
		if !ok {
			return nil, api.Super{}, false
		}
		h, _ := headOf(raw[:48])
		ws = append(ws, api.Write{Address: h.Address, Raw: raw})
	}
	if !mayTogether(l, ws) || v.Hash(raws(ws)) != hash {
		return nil, api.Super{}, false
	}
	return ws, next, true
}

// row is blocks that are written and then flushed.
type row []api.Write

// formatRows, anewRows, commitRows and recoverRows are what the calls write, by 12.2, 12.3 and 12.5.
func formatRows(t *testing.T, v *vault.Vault, s api.Super) []row {
	t.Helper()
	return []row{{{Address: 1 - s.Epoch%2, Raw: blank(512)}, {Address: 2, Raw: blank(512)}}, {superBlock(t, v, s)}}
}

func anewRows(t *testing.T, v *vault.Vault, s api.Super) []row {
	t.Helper()
	return []row{{superBlock(t, v, s)}}
}

func commitRows(t *testing.T, v *vault.Vault, ws []api.Write, next api.Super) []row {
	t.Helper()
	var records row
	for i, w := range ws {
		records = append(records, api.Write{Address: log + i, Raw: w.Raw})
	}
	return []row{records, {promiseBlock(t, v, ws, next)}, ws, {superBlock(t, v, next)}}
}

func recoverRows(t *testing.T, v *vault.Vault, ws []api.Write, next api.Super) []row {
	t.Helper()
	return []row{ws, {superBlock(t, v, next)}}
}

// play writes rows sector by sector, till the power fails.
func play(p *plate.Plate, rows []row) api.Errno {
	for _, r := range rows {
		for _, w := range r {
			for i := range 8 {
				if e := p.Write(8*w.Address+i, w.Raw[64*i:64*(i+1)]); e != api.OK {
					return e
				}
			}
		}
		if e := p.Flush(); e != api.OK {
			return e
		}
	}
	return api.OK
}

// recovered is what Recover tells, by 12.5, and what it does to a device whose power is on.
func recovered(t *testing.T, p *plate.Plate, v *vault.Vault, live int) (api.Super, int, api.Errno) {
	t.Helper()
	im := block.All(p)
	s, ok := chosen([]api.Reading{opened(v, im.Raws[0], im.Masks[0], 0), opened(v, im.Raws[1], im.Masks[1], 1)}, live)
	if !ok {
		return api.Super{}, 0, api.ErrSuper
	}
	ws, next, ok := promised(v, layout(live), im)
	if !ok || next.Epoch != s.Epoch+1 {
		return s, 0, api.OK
	}
	if e := play(p, recoverRows(t, v, ws, next)); e != api.OK {
		return api.Super{}, 0, e
	}
	return next, len(ws), api.OK
}
