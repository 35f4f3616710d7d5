package vault_test

import (
	"math"
	"slices"
	"strings"
	"testing"
	"unsafe"

	"grapnel/api"
	"grapnel/vault"
)

const (
	nonce   = "abcdefghijkl"
	topSalt = 1<<48 - 1
)

func realVault(t *testing.T) *vault.Vault {
	t.Helper()
	v, e := vault.Real("pass phrase", "salt", 3)
	if v == nil || e != api.OK {
		t.Fatalf("Real: vault %v, error %d", v != nil, e)
	}
	return v
}

// bothVaults is a new vault of each kind.
func bothVaults(t *testing.T) map[string]*vault.Vault {
	t.Helper()
	return map[string]*vault.Vault{"real": realVault(t), "ideal": vault.Ideal()}
}

func wantText(t *testing.T, what, got, want string) {
	t.Helper()
	if got != want {
		t.Fatalf("%s: %x; want %x", what, got, want)
	}
}

func wantOK(t *testing.T, what, got string, e api.Errno, want string) {
	t.Helper()
	if got != want || e != api.OK {
		t.Fatalf("%s: %x, error %d; want %x", what, got, e, want)
	}
}

func wantError(t *testing.T, what, got string, e, want api.Errno) {
	t.Helper()
	if got != "" || e != want {
		t.Fatalf("%s: %x, error %d; want nothing, error %d", what, got, e, want)
	}
}

func wantMade(t *testing.T, v *vault.Vault, label, s, tag string, want bool) {
	t.Helper()
	if v.Made(label, s, tag) != want {
		t.Fatalf("Made(%q, %q, %x): %t; want %t", label, s, tag, !want, want)
	}
}

func sealed(t *testing.T, v *vault.Vault, salt int, nonce, ad, s string) string {
	t.Helper()
	c, e := v.Seal(salt, nonce, ad, s)
	if e != api.OK {
		t.Fatalf("Seal(%d, %q, %q, %q): error %d", salt, nonce, ad, s, e)
	}
	return c
}

// with is s, its byte at the place at another one.
func with(s string, at int) string {
	b := []byte(s)
	b[at] ^= 0x40
	return string(b)
}

func bytesOf(n int) string {
	b := make([]byte, n)
	for i := range b {
		b[i] = byte(7*i + 131)
	}
	return string(b)
}

// Behind 'Functions': a vault that neither Real nor Ideal gave makes nothing, at right arguments and at wrong ones.
func TestNeither(t *testing.T) {
	made := vault.Ideal()
	tag, text := made.Mac("a", "t"), sealed(t, made, 1, nonce, "ad", "text")
	for name, v := range map[string]*vault.Vault{"nil": nil, "zero": {}} {
		t.Run(name, func(t *testing.T) {
			for _, s := range []string{"", "t", bytesOf(100)} {
				wantText(t, "Hash", v.Hash(s), "")
				wantText(t, "Mac", v.Mac("a", s), "")
				wantText(t, "Mac without a label", v.Mac("", s), "")
				for _, tag := range []string{"", tag, strings.Repeat("\x00", 16)} {
					wantMade(t, v, "a", s, tag, false)
					wantMade(t, v, "", s, tag, false)
				}
			}
			for _, salt := range []int{0, 1, topSalt, -1, topSalt + 1} {
				for _, nonce := range []string{nonce, "", nonce[1:]} {
					for _, s := range []string{text, "", "text"} {
						got, e := v.Seal(salt, nonce, "ad", s)
						wantError(t, "Seal", got, e, api.ErrArg)
						got, e = v.Open(salt, nonce, "ad", s)
						wantError(t, "Open", got, e, api.ErrArg)
					}
				}
			}
		})
	}
}

// A call of a vault that nobody gave leaves it such.
func TestNeitherStays(t *testing.T) {
	v := &vault.Vault{}
	v.Hash("x")
	v.Mac("a", "t")
	v.Seal(1, nonce, "ad", "text")
	wantText(t, "Hash", v.Hash("x"), "")
	if *v != (vault.Vault{}) {
		t.Fatal("the zero vault has something")
	}
}

// wrongParts is salts and nonces of which at least one may not be.
func wrongParts() []struct {
	salt  int
	nonce string
} {
	var all []struct {
		salt  int
		nonce string
	}
	for _, salt := range []int{0, 5, topSalt, -1, topSalt + 1, topSalt + 2, 1 << 56, math.MaxInt, math.MinInt, -topSalt} {
		for _, n := range []int{0, 1, 11, 12, 13, 24} {
			if salt < 0 || salt > topSalt || n != 12 {
				all = append(all, struct {
					salt  int
					nonce string
				}{salt, bytesOf(n)})
			}
		}
	}
	return all
}

// 5.1, 5.3, R2: ErrArg at a wrong salt or nonce, ahead of bytes that lack and of a tag that is another one.
func TestErrArg(t *testing.T) {
	for name, v := range bothVaults(t) {
		t.Run(name, func(t *testing.T) {
			right := sealed(t, v, 5, bytesOf(12), "ad", "text")
			for _, c := range wrongParts() {
				for _, s := range []string{"", "a", bytesOf(15), bytesOf(16), bytesOf(17), right} {
					got, e := v.Seal(c.salt, c.nonce, "ad", s)
					wantError(t, "Seal", got, e, api.ErrArg)
					got, e = v.Open(c.salt, c.nonce, "ad", s)
					wantError(t, "Open", got, e, api.ErrArg)
				}
			}
			got, e := v.Open(5, bytesOf(12), "ad", right)
			wantOK(t, "Open behind errors", got, e, "text")
		})
	}
}

// 5.1, 5.3, R2: ErrShort below 16 bytes, from 16 on ErrTag; ErrShort ahead of ErrTag.
func TestErrShort(t *testing.T) {
	for name, v := range bothVaults(t) {
		t.Run(name, func(t *testing.T) {
			empty := sealed(t, v, 0, nonce, "", "")
			if len(empty) != 16 {
				t.Fatalf("the empty text, sealed: %d bytes", len(empty))
			}
			for n := range 40 {
				want := api.ErrTag
				if n < 16 {
					want = api.ErrShort
				}
				got, e := v.Open(0, nonce, "", bytesOf(n))
				wantError(t, "Open", got, e, want)
				if n < 16 {
					got, e = v.Open(0, nonce, "", empty[:n])
					wantError(t, "Open of a part", got, e, want)
				}
			}
			got, e := v.Open(0, nonce, "", empty)
			wantOK(t, "Open of the empty text", got, e, "")
		})
	}
}

// fours is what is sealed in tests: edges of the salt, and texts and ads of several lengths.
func fours() []four {
	var all []four
	for _, salt := range []int{0, 1, 255, 256, 1 << 40, topSalt} {
		for _, ad := range []string{"", "ad", "\x00", bytesOf(48)} {
			for _, n := range []int{0, 1, 15, 16, 17, 64, 448} {
				all = append(all, four{salt, nonce, ad, bytesOf(n)})
			}
		}
	}
	return all
}

// 5.1, 5.3: what was sealed opens; with any one part changed it is ErrTag.
func TestSealOpen(t *testing.T) {
	for name, v := range bothVaults(t) {
		t.Run(name, func(t *testing.T) {
			for _, x := range fours() {
				c := sealed(t, v, x.salt, x.nonce, x.ad, x.text)
				if len(c) != len(x.text)+16 {
					t.Fatalf("%d bytes, sealed: %d", len(x.text), len(c))
				}
				got, e := v.Open(x.salt, x.nonce, x.ad, c)
				wantOK(t, "Open", got, e, x.text)
				wantClosed(t, v, x, c)
			}
		})
	}
}

// wantClosed asks for ErrTag at each change of one part. None of the changed fours is sealed itself.
func wantClosed(t *testing.T, v *vault.Vault, x four, c string) {
	t.Helper()
	for _, salt := range []int{2, 1 << 47, topSalt - 1} {
		got, e := v.Open(salt, x.nonce, x.ad, c)
		wantError(t, "Open under another salt", got, e, api.ErrTag)
	}
	for i := range len(x.nonce) {
		got, e := v.Open(x.salt, with(x.nonce, i), x.ad, c)
		wantError(t, "Open of another nonce", got, e, api.ErrTag)
	}
	for _, ad := range []string{x.ad + "x", "x" + x.ad, x.ad + "\x00\x00"} {
		got, e := v.Open(x.salt, x.nonce, ad, c)
		wantError(t, "Open of another ad", got, e, api.ErrTag)
	}
	for i := range len(c) {
		got, e := v.Open(x.salt, x.nonce, x.ad, with(c, i))
		wantError(t, "Open of another byte", got, e, api.ErrTag)
	}
	for _, other := range []string{c + "\x00", "\x00" + c, c + c} {
		got, e := v.Open(x.salt, x.nonce, x.ad, other)
		wantError(t, "Open of more bytes", got, e, api.ErrTag)
	}
}

// 5.1, 5.2: the tag that Mac gave was made for just that label and text; neither another one nor one of another length.
func TestMade(t *testing.T) {
	for name, v := range bothVaults(t) {
		t.Run(name, func(t *testing.T) {
			for _, label := range []string{"", "a", "report", "\x00", bytesOf(100)} {
				for _, s := range []string{"", "t", bytesOf(63), bytesOf(64), bytesOf(500)} {
					tag := v.Mac(label, s)
					if len(tag) != 16 || v.Mac(label, s) != tag {
						t.Fatalf("Mac(%q, %q): %x", label, s, tag)
					}
					wantMade(t, v, label, s, tag, true)
					wantMade(t, v, label+"x", s, tag, false)
					wantMade(t, v, label, s+"x", tag, false)
					wantNotMade(t, v, label, s, tag)
				}
			}
		})
	}
}

func wantNotMade(t *testing.T, v *vault.Vault, label, s, tag string) {
	t.Helper()
	for n := range 16 {
		wantMade(t, v, label, s, with(tag, n), false)
		wantMade(t, v, label, s, tag[:n], false)
		wantMade(t, v, label, s, tag[16-n:], false)
	}
	for _, other := range []string{tag + "\x00", "\x00" + tag, tag + tag, strings.Repeat("\x00", 16)} {
		wantMade(t, v, label, s, other, false)
	}
}

// R3: what a vault keeps is not the memory of what it was handed, and an answer is new memory.
func TestNewMemory(t *testing.T) {
	v := vault.Ideal()
	b := []byte("abcdefghijkltext")
	loose := unsafe.String(&b[0], len(b))
	n, s := loose[:12], loose[12:]
	c := sealed(t, v, 1, n, s, s)
	tag, hash := v.Mac(s, s), v.Hash(s)
	copy(b, "ABCDEFGHIJKLTEXT")
	got, e := v.Open(1, "abcdefghijkl", "text", c)
	wantOK(t, "Open", got, e, "text")
	wantMade(t, v, "text", "text", tag, true)
	wantText(t, "Hash", v.Hash("text"), hash)
	wantMade(t, v, "TEXT", "TEXT", tag, false)

	raw := []byte(c)
	got, e = v.Open(1, "abcdefghijkl", "text", unsafe.String(&raw[0], len(raw)))
	clear(raw)
	wantOK(t, "Open", got, e, "text")
}

// R4: two vaults that are handed the same things answer the same.
func TestSameAnswers(t *testing.T) {
	for name, v := range bothVaults(t) {
		t.Run(name, func(t *testing.T) {
			other := bothVaults(t)[name]
			if !slices.Equal(answers(v), answers(other)) {
				t.Fatal("the same calls have other answers")
			}
		})
	}
}

func answers(v *vault.Vault) []string {
	var all []string
	for _, s := range []string{"a", "b", "", "a", "c"} {
		c, _ := v.Seal(len(all), nonce, s, s)
		all = append(all, v.Hash(s), v.Mac(s, s), v.Mac("", s), c)
	}
	return all
}
