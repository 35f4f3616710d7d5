package box

import (
	"math/bits"

	"grapnel/api"
)

// tagBytes is also how long the pieces are that a text is cut into, and each half of the key.
const tagBytes = api.TagBytes

// wide is a number in three words, the lowest first. The numbers here have 131 bits at most.
type wide [3]uint64

// tagger makes Poly1305's tag of what it takes.
type tagger struct {
	r, s [2]uint64 // the key's halves
	all  wide      // always below 2^130 + 2^128, so that a piece more leaves its highest word below 8
}

// taggerOf begins under a key, whose length is known to be right.
func taggerOf(key string) tagger {
	var r, s [tagBytes]byte
	copy(r[:], key)
	copy(s[:], key[tagBytes:])
	for i := range 4 {
		r[4*i+3] &= 15
	}
	for i := range 3 {
		r[4*i+4] &= 252
	}
	return tagger{r: pair(&r), s: pair(&s)}
}

// pair is the number of sixteen bytes, the lowest first.
func pair(b *[tagBytes]byte) [2]uint64 {
	return [2]uint64{low(b[:8]), low(b[8:])}
}

func low(b []byte) uint64 {
	return uint64(b[0]) | uint64(b[1])<<8 | uint64(b[2])<<16 | uint64(b[3])<<24 |
		uint64(b[4])<<32 | uint64(b[5])<<40 | uint64(b[6])<<48 | uint64(b[7])<<56
}

// put is a number's sixteen bytes.
func put(x, y uint64) [tagBytes]byte {
	var b [tagBytes]byte
	for i := range 8 {
		b[i] = byte(x >> (8 * i))
		b[8+i] = byte(y >> (8 * i))
	}
	return b
}

// take takes a text: sixteen bytes and a byte 1 behind them for each piece; a last piece that is shorter has its byte 1 nearer.
func (t *tagger) take(s string) {
	for len(s) >= tagBytes {
		var b [tagBytes]byte
		copy(b[:], s)
		t.add(&b, 1)
		s = s[tagBytes:]
	}
	if len(s) > 0 {
		var b [tagBytes]byte
		b[copy(b[:], s)] = 1
		t.add(&b, 0)
	}
}

// takeFilled takes a text and the bytes 0 that make it a multiple of sixteen.
func (t *tagger) takeFilled(s string) {
	whole := len(s) - len(s)%tagBytes
	t.take(s[:whole])
	if whole < len(s) {
		var b [tagBytes]byte
		copy(b[:], s[whole:])
		t.add(&b, 1)
	}
}

// takeLengths takes two lengths, each in eight bytes.
func (t *tagger) takeLengths(m, n int) {
	b := put(uint64(m), uint64(n))
	t.add(&b, 1)
}

// add adds a piece, with high as its seventeenth byte, and multiplies by r.
func (t *tagger) add(piece *[tagBytes]byte, high uint64) {
	n := pair(piece)
	x, c := bits.Add64(t.all[0], n[0], 0)
	y, c := bits.Add64(t.all[1], n[1], c)
	t.all = product(x, y, t.all[2]+high+c, t.r[0], t.r[1])
}

// product is the number x, y, z times the number r, s, modulo 2^130 - 5. The four highest bits of r and of s are 0, so that z times either is one word, and no sum of high words goes beyond one.
func product(x, y, z, r, s uint64) wide {
	xrHigh, xr := bits.Mul64(x, r)
	xsHigh, xs := bits.Mul64(x, s)
	yrHigh, yr := bits.Mul64(y, r)
	ysHigh, ys := bits.Mul64(y, s)
	second, c := bits.Add64(xs, yr, 0)
	secondHigh := xsHigh + yrHigh + c
	third, c := bits.Add64(ys, z*r, 0)
	thirdHigh := ysHigh + z*s + c
	second, c = bits.Add64(second, xrHigh, 0)
	third, c = bits.Add64(third, secondHigh, c)
	return folded(xr, second, third, thirdHigh+c)
}

// folded is a number of four words modulo 2^130 - 5. What it has beyond 130 bits is added to the rest five times, for 2^130 counts as 5: four times as the words c and d have it, then once.
func folded(a, b, c, d uint64) wide {
	x, carry := bits.Add64(a, c&^3, 0)
	y, carry := bits.Add64(b, d, carry)
	z := c&3 + carry
	x, carry = bits.Add64(x, c>>2|d<<62, 0)
	y, carry = bits.Add64(y, d>>2, carry)
	return wide{x, y, z + carry}
}

// tag is the tag of all that was taken.
func (t *tagger) tag() string {
	x, y := t.all.least()
	x, c := bits.Add64(x, t.s[0], 0)
	y += t.s[1] + c
	b := put(x, y)
	return string(b[:])
}

// least is the two low words of the number modulo 2^130 - 5. It chooses without a branch, for the number is a secret.
func (w *wide) least() (uint64, uint64) {
	x, borrow := bits.Sub64(w[0], 1<<64-5, 0)
	y, borrow := bits.Sub64(w[1], 1<<64-1, borrow)
	_, borrow = bits.Sub64(w[2], 3, borrow)
	same := -borrow // all ones, if the number is below 2^130 - 5 already
	return x ^ (x^w[0])&same, y ^ (y^w[1])&same
}
