package box

import "math/bits"

const (
	blockBytes = 64
	lastBlock  = 1<<32 - 1 // the highest number of a block
	counterAt  = 12        // where a state has the block's number
)

// state is the sixteen words that a block grows out of.
type state [16]uint32

// stateOf is the state of block 0. The lengths of key and nonce are known to be right.
func stateOf(key, nonce string) state {
	s := state{0x61707865, 0x3320646e, 0x79622d32, 0x6b206574}
	for i := range 8 {
		s[4+i] = word(key[4*i:])
	}
	for i := range 3 {
		s[counterAt+1+i] = word(nonce[4*i:])
	}
	return s
}

// word is the number of a text's first four bytes, the lowest first.
func word(s string) uint32 {
	return uint32(s[0]) | uint32(s[1])<<8 | uint32(s[2])<<16 | uint32(s[3])<<24
}

// block is the bytes of block n.
func (s *state) block(n uint32) [blockBytes]byte {
	first := *s
	first[counterAt] = n
	mixed := first.mixed()
	var b [blockBytes]byte
	for i, w := range mixed {
		w += first[i]
		b[4*i], b[4*i+1], b[4*i+2], b[4*i+3] = byte(w), byte(w>>8), byte(w>>16), byte(w>>24)
	}
	return b
}

// mixed is a state behind its rounds: quarters of its columns, then of its slants. The rounds work on words of their own, not on the array: that is twice as fast.
func (s *state) mixed() state {
	a0, a1, a2, a3 := s[0], s[1], s[2], s[3]
	b0, b1, b2, b3 := s[4], s[5], s[6], s[7]
	c0, c1, c2, c3 := s[8], s[9], s[10], s[11]
	d0, d1, d2, d3 := s[12], s[13], s[14], s[15]
	for range 10 {
		a0, b0, c0, d0 = quarter(a0, b0, c0, d0)
		a1, b1, c1, d1 = quarter(a1, b1, c1, d1)
		a2, b2, c2, d2 = quarter(a2, b2, c2, d2)
		a3, b3, c3, d3 = quarter(a3, b3, c3, d3)
		a0, b1, c2, d3 = quarter(a0, b1, c2, d3)
		a1, b2, c3, d0 = quarter(a1, b2, c3, d0)
		a2, b3, c0, d1 = quarter(a2, b3, c0, d1)
		a3, b0, c1, d2 = quarter(a3, b0, c1, d2)
	}
	return state{a0, a1, a2, a3, b0, b1, b2, b3, c0, c1, c2, c3, d0, d1, d2, d3}
}

func quarter(a, b, c, d uint32) (uint32, uint32, uint32, uint32) {
	a += b
	d = bits.RotateLeft32(d^a, 16)
	c += d
	b = bits.RotateLeft32(b^c, 12)
	a += b
	d = bits.RotateLeft32(d^a, 8)
	c += d
	b = bits.RotateLeft32(b^c, 7)
	return a, b, c, d
}
