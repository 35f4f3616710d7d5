package block_test

import (
	"math"
	"math/rand"
	"strings"
	"testing"
	"unsafe"

	"grapnel/api"
	"grapnel/block"
	"grapnel/pack"
	"grapnel/vault"
)

// A head with each byte of its numbers unlike, as bytes, and its nonce.
var fullHead = api.Head{Volume: 0x060504030201, Address: 0x14131211, Kind: 0x2221, Ino: 0x34333231, Gen: 0x44434241, Index: 0x54535251, Version: 0x666564636261, Salt: 0x767574737271}

const (
	fullText  = "GRPN" + "\x01\x02\x03\x04\x05\x06" + "\x11\x12\x13\x14" + "\x21\x22" + "\x31\x32\x33\x34" + "\x41\x42\x43\x44" + "\x51\x52\x53\x54" + "\x61\x62\x63\x64\x65\x66" + "\x71\x72\x73\x74\x75\x76" + "\x00\x00\x00\x00\x00\x00\x00\x00"
	fullNonce = "\x11\x12\x13\x14" + "\x61\x62\x63\x64\x65\x66" + "\x00\x00"
)

func realVault(t *testing.T) *vault.Vault {
	t.Helper()
	v, e := vault.Real("pass phrase", "salt", 2)
	if v == nil || e != api.OK {
		t.Fatalf("Real: vault %v, error %d", v != nil, e)
	}
	return v
}

// bothVaults is a new vault of each kind.
func bothVaults(t *testing.T) map[string]*vault.Vault {
	t.Helper()
	return map[string]*vault.Vault{"real": realVault(t), "ideal": vault.Ideal()}
}

// notGiven is vaults that neither vault.Real nor vault.Ideal gave.
func notGiven() map[string]*vault.Vault { return map[string]*vault.Vault{"nil": nil, "zero": {}} }

// filled is so many bytes, unlike in each sector and for each seed.
func filled(n int, seed byte) string {
	b := make([]byte, n)
	for i := range b {
		b[i] = byte(i) ^ byte(i/64) ^ seed
	}
	return string(b)
}

func body(seed byte) string { return filled(448, seed) }

func blank(n int) string { return string(make([]byte, n)) }

// with is s, its byte at the place at another one.
func with(s string, at int) string {
	b := []byte(s)
	b[at] ^= 0x40
	return string(b)
}

// number is a tag of the ideal vault.
func number(n int) string {
	b := make([]byte, 16)
	for i := range 6 {
		b[i] = byte(n >> (8 * i))
	}
	return string(b)
}

func sealed(t *testing.T, v *vault.Vault, h api.Head, body string) string {
	t.Helper()
	raw, e := block.Seal(v, h, body)
	if e != api.OK || len(raw) != 512 {
		t.Fatalf("Seal of %v: %d bytes, error %d", h, len(raw), e)
	}
	return raw
}

func wantNoSeal(t *testing.T, what string, v *vault.Vault, h api.Head, body string, want api.Errno) {
	t.Helper()
	if raw, e := block.Seal(v, h, body); raw != "" || e != want {
		t.Fatalf("Seal, %s: %q, error %d; want nothing, error %d", what, raw, e, want)
	}
}

func wantOpen(t *testing.T, v *vault.Vault, raw string, h api.Head, body string) {
	t.Helper()
	if got, s, e := block.Open(v, raw); got != h || s != body || e != api.OK {
		t.Fatalf("Open: %v, %q, error %d; want %v, %q", got, s, e, h, body)
	}
}

func wantClosed(t *testing.T, what string, v *vault.Vault, raw string, want api.Errno) {
	t.Helper()
	if h, s, e := block.Open(v, raw); h != (api.Head{}) || s != "" || e != want {
		t.Fatalf("Open, %s: %v, %q, error %d; want nothing, error %d", what, h, s, e, want)
	}
}

func wantReading(t *testing.T, what string, got api.Reading, h api.Head, body string) {
	t.Helper()
	if got != (api.Reading{Ok: true, Head: h, Body: body}) {
		t.Fatalf("%s: %t, %v, %x; want %v, %x", what, got.Ok, got.Head, got.Body, h, body)
	}
}

func wantNoReading(t *testing.T, what string, got api.Reading) {
	t.Helper()
	if got != (api.Reading{}) {
		t.Fatalf("%s: %t, %v, %x; want no reading", what, got.Ok, got.Head, got.Body)
	}
}

// heads is heads of ordinary numbers, and of the least and the greatest.
func heads() []api.Head {
	top := api.Head{Volume: 1<<48 - 1, Address: 1<<32 - 1, Kind: 1<<16 - 1, Ino: 1<<32 - 1, Gen: 1<<32 - 1, Index: 1<<32 - 1, Version: 1<<48 - 1, Salt: 1<<48 - 1}
	return []api.Head{{}, {Address: 3, Kind: api.KindData}, {Volume: 7, Address: 36, Kind: api.KindDir, Ino: 1, Gen: 1, Version: 300, Salt: 5}, fullHead, top}
}

// 'Words': the head's bytes, then what the vault seals of the body: with the head's salt, its nonce, and its bytes as ad.
func TestSealForm(t *testing.T) {
	for name, v := range bothVaults(t) {
		t.Run(name, func(t *testing.T) {
			raw := sealed(t, v, fullHead, body(1))
			if raw[:48] != fullText {
				t.Fatalf("the head: %x", raw[:48])
			}
			// Open numbers nothing: it tells how the block was sealed.
			if s, e := v.Open(fullHead.Salt, fullNonce, fullText, raw[48:]); s != body(1) || e != api.OK {
				t.Fatalf("the vault's Open: %q, error %d", s, e)
			}
			want, e := v.Seal(fullHead.Salt, fullNonce, fullText, body(1))
			if e != api.OK || raw[48:] != want {
				t.Fatalf("sealed: %x; want %x, error %d", raw[48:], want, e)
			}
			wantOpen(t, v, fullText+want, fullHead, body(1))
		})
	}
}

// Under the ideal vault a block's tag is a number that is counted up.
func TestSealIdealNumbers(t *testing.T) {
	v := vault.Ideal()
	for i := range 3 {
		h := api.Head{Address: i, Kind: api.KindData}
		text, _ := pack.Head(h)
		for range 2 {
			if raw := sealed(t, v, h, body(9)); raw != text+body(9)+number(i+1) {
				t.Fatalf("the block %d: %x", i, raw)
			}
		}
	}
}

// 6.1: what is sealed opens, as the head and the body that it was.
func TestSealOpen(t *testing.T) {
	for name, v := range bothVaults(t) {
		t.Run(name, func(t *testing.T) {
			for i, h := range heads() {
				for _, s := range []string{body(byte(i)), blank(448), strings.Repeat("\xff", 448)} {
					raw := sealed(t, v, h, s)
					wantOpen(t, v, raw, h, s)
					if again := sealed(t, v, h, s); again != raw {
						t.Fatalf("sealed again: %x; want %x", again, raw)
					}
				}
			}
		})
	}
}

// 6.1: a body has 448 bytes. That is told ahead of the head's errors and the vault's.
func TestSealBodies(t *testing.T) {
	vaults := bothVaults(t)
	vaults["nil"], vaults["zero"] = nil, &vault.Vault{}
	for name, v := range vaults {
		t.Run(name, func(t *testing.T) {
			for _, n := range []int{0, 1, 64, 447, 449, 464, 512, 896} {
				for _, h := range append(heads(), api.Head{Address: -1}, api.Head{Salt: 1 << 48}) {
					wantNoSeal(t, "a wrong body", v, h, filled(n, 1), api.ErrArg)
				}
			}
		})
	}
	for _, v := range bothVaults(t) {
		sealed(t, v, fullHead, filled(448, 1))
	}
}

// wrongHeads is heads of which one field has no room, below 0 or beyond its width.
func wrongHeads() []api.Head {
	var all []api.Head
	for _, f := range []struct {
		width int
		set   func(h *api.Head, n int)
	}{
		{6, func(h *api.Head, n int) { h.Volume = n }},
		{4, func(h *api.Head, n int) { h.Address = n }},
		{2, func(h *api.Head, n int) { h.Kind = n }},
		{4, func(h *api.Head, n int) { h.Ino = n }},
		{4, func(h *api.Head, n int) { h.Gen = n }},
		{4, func(h *api.Head, n int) { h.Index = n }},
		{6, func(h *api.Head, n int) { h.Version = n }},
		{6, func(h *api.Head, n int) { h.Salt = n }},
	} {
		for _, n := range []int{-1, 1 << (8 * f.width), math.MinInt, math.MaxInt} {
			h := fullHead
			f.set(&h, n)
			all = append(all, h)
		}
	}
	return all
}

// 6.1: pack.Head's error, ahead of the vault's; nothing is numbered at an error.
func TestSealHeads(t *testing.T) {
	vaults := bothVaults(t)
	vaults["nil"], vaults["zero"] = nil, &vault.Vault{}
	for name, v := range vaults {
		t.Run(name, func(t *testing.T) {
			for _, h := range wrongHeads() {
				if _, e := pack.Head(h); e != api.ErrRange {
					t.Fatalf("pack.Head of %v: error %d", h, e)
				}
				wantNoSeal(t, "a wrong head", v, h, body(1), api.ErrRange)
			}
		})
	}
	if raw := sealed(t, vaults["ideal"], fullHead, body(1)); block.Tag(raw) != number(1) {
		t.Fatalf("the first block behind errors: tag %x", block.Tag(raw))
	}
}

// 6.1, 6.3: of a vault that nobody gave the vault's error, behind all others.
func TestNotGiven(t *testing.T) {
	raw := sealed(t, vault.Ideal(), fullHead, body(1))
	for name, v := range notGiven() {
		t.Run(name, func(t *testing.T) {
			for _, h := range heads() {
				wantNoSeal(t, "no vault", v, h, body(1), api.ErrArg)
			}
			wantClosed(t, "no vault", v, raw, api.ErrArg)
			wantClosed(t, "no vault and no head", v, with(raw, 0), api.ErrForm)
			wantClosed(t, "no vault and no head", v, blank(512), api.ErrForm)
			wantClosed(t, "no vault and too few bytes", v, raw[:511], api.ErrArg)
			wantNoReading(t, "Told", block.Told(v, raw, fullHead.Address))
		})
	}
}

// 6.1: a block has 512 bytes. That is told ahead of the head's errors and the vault's.
func TestOpenLengths(t *testing.T) {
	for name, v := range bothVaults(t) {
		t.Run(name, func(t *testing.T) {
			raw := sealed(t, v, fullHead, body(1))
			for _, s := range []string{"", raw[:1], raw[:47], raw[:48], raw[:64], raw[:511], raw[1:], raw + "\x00", "\x00" + raw, raw + raw} {
				wantClosed(t, "another length", v, s, api.ErrArg)
				wantNoReading(t, "Told of another length", block.Told(v, s, fullHead.Address))
			}
			for _, n := range []int{0, 511, 513, 1024} {
				wantClosed(t, "another length, and no head", v, blank(n), api.ErrArg)
			}
			wantClosed(t, "no head", v, blank(512), api.ErrForm)
			wantOpen(t, v, raw, fullHead, body(1))
		})
	}
}

// 6.1: each byte of the head, the body and the tag counts; pack.HeadOf's error is told ahead of the vault's.
func TestOpenChanged(t *testing.T) {
	for name, v := range bothVaults(t) {
		t.Run(name, func(t *testing.T) {
			raw := sealed(t, v, fullHead, body(1))
			for at := range 512 {
				want := api.ErrTag
				if at < 4 || at >= 40 && at < 48 {
					want = api.ErrForm
				}
				wantClosed(t, "a byte changed", v, with(raw, at), want)
				wantNoReading(t, "Told of a byte changed", block.Told(v, with(raw, at), fullHead.Address))
			}
			wantClosed(t, "no head and no tag", v, with(with(raw, 0), 511), api.ErrForm)
			wantClosed(t, "no head and no tag", v, with(with(raw, 47), 511), api.ErrForm)
			wantOpen(t, v, raw, fullHead, body(1))
		})
	}
}

// 6.1: a part of one block and the rest of another do not open, though each part was made.
func TestOpenParts(t *testing.T) {
	for name, v := range bothVaults(t) {
		t.Run(name, func(t *testing.T) {
			a := sealed(t, v, api.Head{Address: 5, Version: 1}, body(1))
			for _, b := range []string{
				sealed(t, v, api.Head{Address: 5, Version: 2}, body(2)),
				sealed(t, v, api.Head{Address: 6, Version: 1}, body(3)),
				sealed(t, v, api.Head{Address: 5, Version: 1, Salt: 1}, body(4)),
				sealed(t, v, api.Head{Address: 5, Version: 1, Ino: 1}, body(5)),
			} {
				wantClosed(t, "another head", v, b[:48]+a[48:], api.ErrTag)
				wantClosed(t, "another body", v, a[:48]+b[48:496]+a[496:], api.ErrTag)
				wantClosed(t, "another tag", v, a[:496]+b[496:], api.ErrTag)
			}
		})
	}
}

// 6.1: another vault opens nothing of it.
func TestOpenOtherVault(t *testing.T) {
	other, e := vault.Real("pass phrase", "pepper", 2)
	if e != api.OK {
		t.Fatal(e)
	}
	for _, v := range bothVaults(t) {
		raw := sealed(t, v, fullHead, body(1))
		wantClosed(t, "under another key", other, raw, api.ErrTag)
		wantClosed(t, "under another ideal vault", vault.Ideal(), raw, api.ErrTag)
	}
	wantOpen(t, realVault(t), sealed(t, realVault(t), fullHead, body(1)), fullHead, body(1))
}

// 6.1: the last 16 bytes of 512, whatever they are.
func TestTag(t *testing.T) {
	raw := filled(512, 3)
	if got := block.Tag(raw); got != raw[496:] || len(got) != 16 {
		t.Fatalf("Tag: %x; want %x", got, raw[496:])
	}
	if got := block.Tag(blank(512)); got != blank(16) {
		t.Fatalf("Tag of bytes 0: %x", got)
	}
	for _, n := range []int{0, 1, 15, 16, 448, 511, 513, 1024} {
		if got := block.Tag(filled(n, 3)); got != "" {
			t.Fatalf("Tag of %d bytes: %x", n, got)
		}
	}
}

// The chapter's first example.
func TestExampleTold(t *testing.T) {
	for name, v := range bothVaults(t) {
		t.Run(name, func(t *testing.T) {
			h := api.Head{Address: 9, Kind: api.KindData, Version: 4}
			raw := sealed(t, v, h, body(1))
			wantReading(t, "Told at 9", block.Told(v, raw, 9), h, body(1))
			wantNoReading(t, "Told at 10", block.Told(v, raw, 10))
		})
	}
}

// 6.3: a block is a reading at its head's address alone.
func TestTold(t *testing.T) {
	for name, v := range bothVaults(t) {
		t.Run(name, func(t *testing.T) {
			for i, h := range heads() {
				raw := sealed(t, v, h, body(byte(i)))
				wantReading(t, "Told", block.Told(v, raw, h.Address), h, body(byte(i)))
				for _, at := range []int{-1, h.Address - 1, h.Address + 1, -h.Address - 1, h.Address + 1<<32, h.Address - 1<<32, h.Address ^ 1<<62, math.MinInt, math.MaxInt} {
					wantNoReading(t, "Told elsewhere", block.Told(v, raw, at))
				}
			}
			for _, s := range []string{"", blank(511), blank(512), blank(513), filled(512, 1)} {
				wantNoReading(t, "Told of no block", block.Told(v, s, 0))
			}
		})
	}
}

// loose is a text whose bytes can be changed, as those of no text may be.
func loose(s string) (string, []byte) {
	b := []byte(s)
	return unsafe.String(&b[0], len(b)), b
}

// R3: what is answered is new memory.
func TestNewMemory(t *testing.T) {
	for name, v := range bothVaults(t) {
		t.Run(name, func(t *testing.T) {
			s, b := loose(body(1))
			raw := sealed(t, v, fullHead, s)
			clear(b)
			wantOpen(t, v, raw, fullHead, body(1))

			s, b = loose(raw)
			h, opened, e := block.Open(v, s)
			told, tag := block.Told(v, s, fullHead.Address), block.Tag(s)
			clear(b)
			if h != fullHead || opened != body(1) || e != api.OK {
				t.Fatalf("Open: %v, %q, error %d", h, opened, e)
			}
			wantReading(t, "Told", told, fullHead, body(1))
			if tag != raw[496:] {
				t.Fatalf("Tag: %x", tag)
			}
		})
	}
}

// made is what was sealed under an ideal vault, by the block's bytes.
type made struct {
	h    api.Head
	body string
}

// 6.5: of blocks that are cut together out of those that were made, or changed, just those open that were made, with the head and the body of then, and each is a reading at its address alone.
func TestNeverDeceived(t *testing.T) {
	for seed := range int64(20) {
		chance := rand.New(rand.NewSource(seed))
		v := vault.Ideal()
		all, raws := map[string]made{}, []string{}
		for range 400 {
			if len(raws) == 0 || chance.Intn(4) == 0 {
				m := made{api.Head{Address: chance.Intn(3), Version: chance.Intn(3), Salt: chance.Intn(2)}, body(byte(chance.Intn(3)))}
				raw := sealed(t, v, m.h, m.body)
				all[raw] = m
				raws = append(raws, raw)
			}
			wantJustMade(t, v, all, mixed(chance, raws))
		}
	}
}

// mixed is a block whose head, body and tag are each of some block that was made, and now and then one byte of it another one.
func mixed(chance *rand.Rand, raws []string) string {
	any := func() string { return raws[chance.Intn(len(raws))] }
	a := any()
	raw := a[:48] + any()[48:496] + any()[496:]
	switch chance.Intn(3) {
	case 0:
		return a
	case 1:
		return with(raw, chance.Intn(512))
	}
	return raw
}

func wantJustMade(t *testing.T, v *vault.Vault, all map[string]made, raw string) {
	t.Helper()
	m, known := all[raw]
	h, s, e := block.Open(v, raw)
	if known != (e == api.OK) || h != m.h || s != m.body {
		t.Fatalf("Open: %v, %q, error %d; made: %t, %v, %q", h, s, e, known, m.h, m.body)
	}
	for at := range 4 {
		if got := block.Told(v, raw, at); known && at == m.h.Address {
			wantReading(t, "Told", got, m.h, m.body)
		} else {
			wantNoReading(t, "Told", got)
		}
	}
}
