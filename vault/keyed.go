package vault

import (
	"grapnel/api"
	"grapnel/box"
	"grapnel/sum"
)

// keyed is the real vault's way.
type keyed struct{ master string }

// keyFor is the key for a purpose.
func (k *keyed) keyFor(purpose string) string {
	// Expand refuses lengths alone, and a key's is none that it refuses.
	key, _ := sum.Expand(k.master, purpose, api.KeyBytes)
	return key
}

func (k *keyed) hash(s string) string { return sum.Sum(s) }

func (k *keyed) mac(label, s string) string {
	return sum.Mac(k.keyFor("mark "+label), s)[:api.TagBytes]
}

// made compares by box.Same, so that how long it takes tells a forger nothing.
func (k *keyed) made(label, s, tag string) bool { return box.Same(tag, k.mac(label, s)) }

func (k *keyed) sealKey(salt int) string { return k.keyFor("seal " + inBytes(salt)) }

func (k *keyed) seal(salt int, nonce, ad, s string) (string, api.Errno) {
	return box.Seal(k.sealKey(salt), nonce, ad, s)
}

func (k *keyed) open(salt int, nonce, ad, s string) (string, api.Errno) {
	return box.Open(k.sealKey(salt), nonce, ad, s)
}
