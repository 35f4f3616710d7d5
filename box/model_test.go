package box_test

import (
	"encoding/hex"
	"math/big"
	"math/bits"
	"strings"
	"testing"
)

// What box must answer, written down once more as the chapter's words say it: slowly, with numbers of any size.

// modelBlock is ChaCha20's block n.
func modelBlock(key, nonce string, n uint32) string {
	words := []uint32{0x61707865, 0x3320646e, 0x79622d32, 0x6b206574}
	counter := string([]byte{byte(n), byte(n >> 8), byte(n >> 16), byte(n >> 24)})
	rest := key + counter + nonce
	for i := 0; i < len(rest); i += 4 {
		words = append(words, uint32(number(rest[i:i+4]).Uint64()))
	}
	x := append([]uint32(nil), words...)
	for range 10 {
		for _, q := range [][4]int{
			{0, 4, 8, 12}, {1, 5, 9, 13}, {2, 6, 10, 14}, {3, 7, 11, 15},
			{0, 5, 10, 15}, {1, 6, 11, 12}, {2, 7, 8, 13}, {3, 4, 9, 14},
		} {
			modelQuarter(&x[q[0]], &x[q[1]], &x[q[2]], &x[q[3]])
		}
	}
	var out strings.Builder
	for i, w := range x {
		w += words[i]
		out.Write([]byte{byte(w), byte(w >> 8), byte(w >> 16), byte(w >> 24)})
	}
	return out.String()
}

func modelQuarter(a, b, c, d *uint32) {
	*a += *b
	*d = bits.RotateLeft32(*d^*a, 16)
	*c += *d
	*b = bits.RotateLeft32(*b^*c, 12)
	*a += *b
	*d = bits.RotateLeft32(*d^*a, 8)
	*c += *d
	*b = bits.RotateLeft32(*b^*c, 7)
}

func modelStream(key, nonce string, at int, s string) string {
	b := []byte(s)
	block := ""
	for i := range b {
		if i%64 == 0 {
			block = modelBlock(key, nonce, uint32(at+i/64))
		}
		b[i] ^= block[i%64]
	}
	return string(b)
}

// number is that of bytes, the lowest first.
func number(s string) *big.Int {
	b := []byte(s)
	for i := range len(b) / 2 {
		b[i], b[len(b)-1-i] = b[len(b)-1-i], b[i]
	}
	return new(big.Int).SetBytes(b)
}

func modelTag(key, s string) string {
	first := []byte(key[:16])
	for _, i := range []int{3, 7, 11, 15} {
		first[i] %= 16
	}
	for _, i := range []int{4, 8, 12} {
		first[i] -= first[i] % 4
	}
	r, all := number(string(first)), new(big.Int)
	prime := new(big.Int).Sub(new(big.Int).Lsh(big.NewInt(1), 130), big.NewInt(5))
	for i := 0; i < len(s); i += 16 {
		all.Add(all, number(s[i:min(i+16, len(s))]+"\x01"))
		all.Mul(all, r)
		all.Mod(all, prime)
	}
	all.Add(all, number(key[16:]))
	b := make([]byte, 16)
	for i := range b {
		b[i] = byte(new(big.Int).Rsh(all, uint(8*i)).Uint64())
	}
	return string(b)
}

func modelSeal(key, nonce, ad, s string) string {
	sealed := modelStream(key, nonce, 1, s)
	all := ad + fill(ad) + sealed + fill(sealed) + length(ad) + length(sealed)
	return sealed + modelTag(modelBlock(key, nonce, 0)[:32], all)
}

// fill is the bytes 0 that make a text a multiple of sixteen.
func fill(s string) string { return strings.Repeat("\x00", (16-len(s)%16)%16) }

func length(s string) string {
	b := make([]byte, 8)
	for i := range b {
		b[i] = byte(len(s) >> (8 * i))
	}
	return string(b)
}

// bytesFrom is n bytes that look like chance, others for each seed.
func bytesFrom(seed, n int) string {
	b := make([]byte, n)
	x := uint64(seed)*2862933555777941757 + 3037000493
	for i := range b {
		x = x*6364136223846793005 + 1442695040888963407
		b[i] = byte(x >> 56)
	}
	return string(b)
}

func key32(seed int) string   { return bytesFrom(1000+seed, 32) }
func nonce12(seed int) string { return bytesFrom(2000+seed, 12) }

// upFrom is n bytes that count up.
func upFrom(first byte, n int) string {
	b := make([]byte, n)
	for i := range b {
		b[i] = first + byte(i)
	}
	return string(b)
}

func unhex(t *testing.T, s string) string {
	t.Helper()
	b, err := hex.DecodeString(strings.Join(strings.Fields(s), ""))
	if err != nil {
		t.Fatal(err)
	}
	return string(b)
}
