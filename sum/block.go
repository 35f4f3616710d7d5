package sum

import "math/bits"

const (
	blockBytes = 64
	sumBytes   = 32
	sizeAt     = 56 // where a text's last block has how many bits the text has
	steps      = 64 // of a block
)

// state is the eight words that a text's blocks change one by one.
type state [8]uint32

// block is a piece of a text, ahead of being cut into words.
type block [blockBytes]byte

// digest is a sum as bytes, an array so that rounds that go on from it need no new memory.
type digest [sumBytes]byte

// first is the state ahead of a text's first block.
var first = state{
	0x6a09e667, 0xbb67ae85, 0x3c6ef372, 0xa54ff53a, 0x510e527f, 0x9b05688c, 0x1f83d9ab, 0x5be0cd19,
}

// cubes are k(0) to k(63): the first 32 bits behind the point of the primes' cube roots.
var cubes = [steps]uint32{
	0x428a2f98, 0x71374491, 0xb5c0fbcf, 0xe9b5dba5, 0x3956c25b, 0x59f111f1, 0x923f82a4, 0xab1c5ed5,
	0xd807aa98, 0x12835b01, 0x243185be, 0x550c7dc3, 0x72be5d74, 0x80deb1fe, 0x9bdc06a7, 0xc19bf174,
	0xe49b69c1, 0xefbe4786, 0x0fc19dc6, 0x240ca1cc, 0x2de92c6f, 0x4a7484aa, 0x5cb0a9dc, 0x76f988da,
	0x983e5152, 0xa831c66d, 0xb00327c8, 0xbf597fc7, 0xc6e00bf3, 0xd5a79147, 0x06ca6351, 0x14292967,
	0x27b70a85, 0x2e1b2138, 0x4d2c6dfc, 0x53380d13, 0x650a7354, 0x766a0abb, 0x81c2c92e, 0x92722c85,
	0xa2bfe8a1, 0xa81a664b, 0xc24b8b70, 0xc76c51a3, 0xd192e819, 0xd6990624, 0xf40e3585, 0x106aa070,
	0x19a4c116, 0x1e376c08, 0x2748774c, 0x34b0bcb5, 0x391c0cb3, 0x4ed8aa4a, 0x5b9cca4f, 0x682e6ff3,
	0x748f82ee, 0x78a5636f, 0x84c87814, 0x8cc70208, 0x90befffa, 0xa4506ceb, 0xbef9a3f7, 0xc67178f2,
}

// with is the state behind one more block. The steps work on eight numbers of their own, not on the array: that is several times as fast.
func (s state) with(piece *block) state {
	w := schedule(piece)
	a, b, c, d, e, f, g, h := s[0], s[1], s[2], s[3], s[4], s[5], s[6], s[7]
	for i := range steps {
		t := h + (right(e, 6) ^ right(e, 11) ^ right(e, 25)) + ((e & f) ^ (^e & g)) + cubes[i] + w[i]
		u := (right(a, 2) ^ right(a, 13) ^ right(a, 22)) + ((a & b) ^ (a & c) ^ (b & c))
		a, b, c, d, e, f, g, h = t+u, a, b, c, d+t, e, f, g
	}
	return state{s[0] + a, s[1] + b, s[2] + c, s[3] + d, s[4] + e, s[5] + f, s[6] + g, s[7] + h}
}

// schedule is a block's sixteen words and the 48 that grow out of them.
func schedule(b *block) [steps]uint32 {
	var w [steps]uint32
	for i := range 16 {
		w[i] = uint32(b[4*i])<<24 | uint32(b[4*i+1])<<16 | uint32(b[4*i+2])<<8 | uint32(b[4*i+3])
	}
	for i := 16; i < steps; i++ {
		x, y := w[i-15], w[i-2]
		w[i] = w[i-16] + (right(x, 7) ^ right(x, 18) ^ x>>3) + w[i-7] + (right(y, 17) ^ right(y, 19) ^ y>>10)
	}
	return w
}

// right turns a word to the right by n bits.
func right(x uint32, n int) uint32 { return bits.RotateLeft32(x, -n) }

// bytes is the state as a sum.
func (s state) bytes() digest {
	var d digest
	for i, word := range s {
		putHigh(d[4*i:4*i+4], uint64(word))
	}
	return d
}

// putHigh fills b with a number, the highest byte first. (The other layers' numbers have the lowest byte first: pack's.)
func putHigh(b []byte, n uint64) {
	for i := range b {
		b[i] = byte(n >> (8 * (len(b) - 1 - i)))
	}
}
