package vault_test

import (
	"crypto/hkdf"
	"crypto/hmac"
	"crypto/pbkdf2"
	"crypto/sha256"
	"math"
	"testing"

	"grapnel/api"
	"grapnel/box"
	"grapnel/pack"
	"grapnel/sum"
	"grapnel/vault"
)

// keyFor is the real vault's key for a purpose, by sum.
func keyFor(t *testing.T, pass, salt string, rounds int, purpose string) string {
	t.Helper()
	master, e := sum.Stretch(pass, salt, rounds, 32)
	if e != api.OK {
		t.Fatalf("Stretch: error %d", e)
	}
	key, e := sum.Expand(master, purpose, 32)
	if e != api.OK {
		t.Fatalf("Expand: error %d", e)
	}
	return key
}

// phrase is what a real vault is made of.
type phrase struct {
	pass, salt string
	rounds     int
}

func phrases() []phrase {
	return []phrase{{"pass phrase", "salt", 3}, {"", "", 1}, {bytesOf(100), bytesOf(16), 2}, {"pass phrase", "salt", 1000}}
}

func (p phrase) vault(t *testing.T) *vault.Vault {
	t.Helper()
	v, e := vault.Real(p.pass, p.salt, p.rounds)
	if v == nil || e != api.OK {
		t.Fatalf("Real(%q, %q, %d): vault %v, error %d", p.pass, p.salt, p.rounds, v != nil, e)
	}
	return v
}

// 5.1: Real refuses what Stretch refuses, with its error, and gives no vault.
func TestRealRefuses(t *testing.T) {
	for _, rounds := range []int{0, -1, 1001, 1 << 40, math.MaxInt, math.MinInt} {
		for _, pass := range []string{"", "p", bytesOf(200)} {
			_, want := sum.Stretch(pass, "s", rounds, 32)
			if want != api.ErrArg {
				t.Fatalf("Stretch in %d rounds: error %d", rounds, want)
			}
			if v, e := vault.Real(pass, "s", rounds); v != nil || e != want {
				t.Fatalf("Real in %d rounds: vault %v, error %d; want error %d", rounds, v != nil, e, want)
			}
		}
	}
}

// 5.1: the real vault's Hash is sum.Sum, whatever its key.
func TestRealHash(t *testing.T) {
	for _, p := range phrases() {
		v := p.vault(t)
		for _, n := range []int{0, 1, 55, 56, 64, 65, 1000} {
			wantText(t, "Hash", v.Hash(bytesOf(n)), sum.Sum(bytesOf(n)))
		}
	}
}

// 5.1: the real vault's Mac, by sum: the label goes into the key.
func TestRealMac(t *testing.T) {
	for _, p := range phrases() {
		v := p.vault(t)
		for _, label := range []string{"", "a", "report", "mark ", "\x00", bytesOf(80)} {
			key := keyFor(t, p.pass, p.salt, p.rounds, "mark "+label)
			for _, s := range []string{"", "t", bytesOf(64), bytesOf(500)} {
				want := sum.Mac(key, s)[:16]
				wantText(t, "Mac", v.Mac(label, s), want)
				wantMade(t, v, label, s, want, true)
				wantMade(t, v, label, s, sum.Mac(key, s), false)
				wantNotMade(t, v, label, s, want)
			}
		}
	}
}

// 5.1: the real vault's Seal and Open, by box, at the edges of the salt.
func TestRealSeal(t *testing.T) {
	for _, p := range phrases() {
		v := p.vault(t)
		for _, x := range fours() {
			number, e := pack.Put(x.salt, 6)
			if e != api.OK {
				t.Fatalf("Put: error %d", e)
			}
			key := keyFor(t, p.pass, p.salt, p.rounds, "seal "+number)
			want, e := box.Seal(key, x.nonce, x.ad, x.text)
			if e != api.OK {
				t.Fatalf("box.Seal: error %d", e)
			}
			wantText(t, "Seal", sealed(t, v, x.salt, x.nonce, x.ad, x.text), want)
			got, e := v.Open(x.salt, x.nonce, x.ad, want)
			wantOK(t, "Open", got, e, x.text)
		}
	}
}

// 5.1: what Open tells of any bytes is what box.Open tells.
func TestRealOpen(t *testing.T) {
	v := realVault(t)
	key := keyFor(t, "pass phrase", "salt", 3, "seal \x01\x02\x00\x00\x00\x00")
	right, _ := box.Seal(key, nonce, "ad", "x")
	for _, s := range []string{"", bytesOf(15), bytesOf(16), bytesOf(17), right, right[:16], right[1:], with(right, 0), with(right, 16)} {
		want, wantErr := box.Open(key, nonce, "ad", s)
		got, e := v.Open(0x201, nonce, "ad", s)
		if got != want || e != wantErr {
			t.Fatalf("Open of %x: %x, error %d; want %x, error %d", s, got, e, want, wantErr)
		}
	}
}

// 5.1: the keys of a real vault, by the library's own PBKDF2, HKDF and HMAC.
func TestRealByLibrary(t *testing.T) {
	master, err := pbkdf2.Key(sha256.New, "pass phrase", []byte("salt"), 3, 32)
	if err != nil {
		t.Fatal(err)
	}
	key, err := hkdf.Expand(sha256.New, master, "mark label", 32)
	if err != nil {
		t.Fatal(err)
	}
	mac := hmac.New(sha256.New, key)
	mac.Write([]byte("text"))
	wantText(t, "Mac", realVault(t).Mac("label", "text"), string(mac.Sum(nil)[:16]))
}

// 5.1: what a vault makes under one pass phrase, salt or number of rounds is nothing under another one.
func TestRealOthers(t *testing.T) {
	v := realVault(t)
	tag, c := v.Mac("a", "t"), sealed(t, v, 1, nonce, "ad", "text")
	for _, p := range []phrase{{"pass phrasf", "salt", 3}, {"pass phrase", "salu", 3}, {"pass phrase", "salt", 4}, {"pass phrases", "alt", 3}} {
		other := p.vault(t)
		wantMade(t, other, "a", "t", tag, false)
		got, e := other.Open(1, nonce, "ad", c)
		wantError(t, "Open", got, e, api.ErrTag)
	}
	again := realVault(t)
	wantMade(t, again, "a", "t", tag, true)
	got, e := again.Open(1, nonce, "ad", c)
	wantOK(t, "Open by another one of the same key", got, e, "text")
}

// 5.1: all six bytes of a salt go into the key: no two seals have their stream in common.
func TestRealSalts(t *testing.T) {
	v := realVault(t)
	seen := map[string]int{}
	for _, salt := range []int{0, 1, 256, 1 << 16, 1 << 24, 1 << 32, 1 << 40, 1 << 47, topSalt} {
		seen[sealed(t, v, salt, nonce, "", bytesOf(32))[:32]]++
	}
	if len(seen) != 9 {
		t.Fatalf("9 salts, %d streams", len(seen))
	}
}
