package sum

// macKey is an HMAC's key as two mixes that have taken it already: who makes many HMACs under one key takes it once.
type macKey struct {
	inner, outer Mix
}

func keyOf(s string) macKey {
	if len(s) > blockBytes {
		s = Sum(s)
	}
	var x, y block
	copy(x[:], s)
	copy(y[:], s)
	for i := range blockBytes {
		x[i] ^= 0x36
		y[i] ^= 0x5c
	}
	k := macKey{inner: start(), outer: start()}
	k.inner.Feed(string(x[:]))
	k.outer.Feed(string(y[:]))
	return k
}

// mac is the HMAC of the parts, one behind the other.
func (k *macKey) mac(parts ...string) digest {
	inner, outer := k.inner, k.outer
	for _, s := range parts {
		inner.Feed(s)
	}
	d := finish(inner)
	outer.Feed(string(d[:]))
	return finish(outer)
}

// stretched is PBKDF2's block i, under the pass phrase as a key.
func (k *macKey) stretched(salt string, rounds, i int) digest {
	var number [4]byte
	putHigh(number[:], uint64(i))
	u := k.mac(salt, string(number[:]))
	all := u
	for range rounds - 1 {
		u = k.mac(string(u[:]))
		for j := range all {
			all[j] ^= u[j]
		}
	}
	return all
}
