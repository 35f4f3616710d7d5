package box_test

import (
	"math"
	"strings"
	"testing"

	"grapnel/api"
	"grapnel/box"
)

const (
	last      = 1<<32 - 1 // the highest number of a block
	sunscreen = "Ladies and Gentlemen of the class of '99: If I could offer you only one tip for the future, sunscreen would be it."
)

func wantOK(t *testing.T, what, got string, e api.Errno, want string) {
	t.Helper()
	if e != api.OK || got != want {
		t.Fatalf("%s: got %x, error %d; want %x", what, got, e, want)
	}
}

func wantError(t *testing.T, what, got string, e, want api.Errno) {
	t.Helper()
	if got != "" || e != want {
		t.Fatalf("%s: got %x, error %d; want nothing, error %d", what, got, e, want)
	}
}

// 3.1: RFC 8439, 2.3.2 and 2.4.2.
func TestStreamExamples(t *testing.T) {
	key := upFrom(0, 32)
	s, e := box.Stream(key, unhex(t, "000000090000004a00000000"), 1, strings.Repeat("\x00", 64))
	wantOK(t, "a block", s, e, unhex(t, `10f1e7e4d13b5915500fdd1fa32071c4 c7d1f4c733c068030422aa9ac3d46c4e
		d2826446079faa0914c2d705d98b02a2 b5129cd1de164eb9cbd083e8a2503c4e`))
	s, e = box.Stream(key, unhex(t, "000000000000004a00000000"), 1, sunscreen)
	wantOK(t, "a text", s, e, unhex(t, `6e2e359a2568f98041ba0728dd0d6981 e97e7aec1d4360c20a27afccfd9fae0b
		f91b65c5524733ab8f593dabcd62b357 1639d624e65152ab8f530c359f0861d8 07ca0dbf500d6a6156a38e088a22b65e
		52bc514d16ccf806818ce91ab7793736 5af90bbf74a35be6b40b8eedf2785e42 874d`))
	s, e = box.Stream(strings.Repeat("\x00", 32), strings.Repeat("\x00", 12), 0, strings.Repeat("\x00", 64)) // A.1
	wantOK(t, "the block of zeros", s, e, unhex(t, `76b8e0ada0f13d90405d6ae55386bd28 bdd219b8a08ded1aa836efcc8b770dc7
		da41597c5157488d7724e03fb8d84a37 6a43b8f41518a11cc387b669b2ee6586`))
}

// 3.1: texts of all lengths about a block's, from all counters at the edges.
func TestStream(t *testing.T) {
	for _, at := range []int{0, 1, 2, 255, 256, 1<<31 - 1, 1 << 31, last - 20} {
		for seed, n := range []int{0, 1, 2, 63, 64, 65, 127, 128, 129, 448, 1000, 1280} {
			key, nonce, text := key32(seed), nonce12(seed), bytesFrom(seed, n)
			s, e := box.Stream(key, nonce, at, text)
			wantOK(t, "Stream", s, e, modelStream(key, nonce, at, text))
		}
	}
}

// 3.1: each byte of the key and of the nonce, and each bit of the counter, counts.
func TestStreamInputs(t *testing.T) {
	text := strings.Repeat("\x00", 64)
	for i := range 32 {
		key := strings.Repeat("\x00", i) + "\x81" + strings.Repeat("\x00", 31-i)
		s, e := box.Stream(key, nonce12(0), i, text)
		wantOK(t, "a byte of the key", s, e, modelStream(key, nonce12(0), i, text))
		s, e = box.Stream(key32(0), nonce12(0), 1<<i, text)
		wantOK(t, "a bit of the counter", s, e, modelStream(key32(0), nonce12(0), 1<<i, text))
	}
	for i := range 12 {
		nonce := strings.Repeat("\x00", i) + "\x81" + strings.Repeat("\x00", 11-i)
		s, e := box.Stream(key32(0), nonce, i, text)
		wantOK(t, "a byte of the nonce", s, e, modelStream(key32(0), nonce, i, text))
	}
	ones := strings.Repeat("\xff", 32)
	s, e := box.Stream(ones, ones[:12], last, ones+ones)
	wantOK(t, "bytes 255", s, e, modelStream(ones, ones[:12], last, ones+ones))
}

// 3.1: the last block there is may be needed, none beyond it; at itself is asked though no block is needed.
func TestStreamRange(t *testing.T) {
	key, nonce := key32(0), nonce12(0)
	for _, c := range []struct {
		at, most int // how many bytes may be
	}{
		{last, 64}, {last - 1, 128}, {last - 2, 192},
	} {
		for _, n := range []int{0, 1, 63, 64, 65, 127, 128, 129, 191, 192, 193, 1000} {
			text := bytesFrom(n, n)
			s, e := box.Stream(key, nonce, c.at, text)
			if n <= c.most {
				wantOK(t, "up to the last block", s, e, modelStream(key, nonce, c.at, text))
			} else {
				wantError(t, "beyond the last block", s, e, api.ErrRange)
			}
		}
	}
	for _, at := range []int{-1, -2, -64, last + 1, last + 2, 1 << 33, math.MinInt, math.MaxInt, math.MaxInt - 1} {
		for _, text := range []string{"", "a", bytesFrom(0, 64), bytesFrom(0, 65), bytesFrom(0, 500)} {
			s, e := box.Stream(key, nonce, at, text)
			wantError(t, "no block's number", s, e, api.ErrRange)
		}
	}
}

// wrongLengths is keys and nonces of which at least one has not its length.
func wrongLengths() [][2]string {
	var all [][2]string
	for _, k := range []int{0, 1, 16, 31, 32, 33, 64} {
		for _, n := range []int{0, 1, 8, 11, 12, 13, 24} {
			if k != 32 || n != 12 {
				all = append(all, [2]string{bytesFrom(1, k), bytesFrom(2, n)})
			}
		}
	}
	return all
}

// 3.1, 3.2, 3.3, R2: a key or a nonce of another length is told ahead of all else.
func TestWrongLengths(t *testing.T) {
	for _, c := range wrongLengths() {
		for _, at := range []int{0, 1, -1, last, last + 1} {
			s, e := box.Stream(c[0], c[1], at, "text")
			wantError(t, "Stream", s, e, api.ErrArg)
			s, e = box.Stream(c[0], c[1], at, bytesFrom(0, 100))
			wantError(t, "Stream", s, e, api.ErrArg)
		}
		for _, text := range []string{"", "short", bytesFrom(0, 15), bytesFrom(0, 16), bytesFrom(0, 100)} {
			s, e := box.Seal(c[0], c[1], "ad", text)
			wantError(t, "Seal", s, e, api.ErrArg)
			s, e = box.Open(c[0], c[1], "ad", text)
			wantError(t, "Open", s, e, api.ErrArg)
		}
	}
	for _, k := range []int{0, 1, 16, 31, 33, 64} {
		for _, text := range []string{"", "text", bytesFrom(0, 100)} {
			s, e := box.Tag(bytesFrom(1, k), text)
			wantError(t, "Tag", s, e, api.ErrArg)
		}
	}
}

// 3.2: RFC 8439, 2.5.2, and of its A.3 those where the number comes to 2^130 - 5 and beyond.
func TestTagExamples(t *testing.T) {
	s, e := box.Tag(unhex(t, "85d6be7857556d337f4452fe42d506a8 0103808afb0db2fd4abff6af4149f51b"), "Cryptographic Forum Research Group")
	wantOK(t, "a text", s, e, unhex(t, "a8061dc1305136c6c22b8baf0c0127a9"))
	for _, c := range []struct{ r, s, text, want string }{
		{"02", "", strings.Repeat("ff", 16), "03"},
		{"02", strings.Repeat("ff", 16), "02000000000000000000000000000000", "03"},
		{"01", "", strings.Repeat("ff", 16) + "f0" + strings.Repeat("ff", 15) + "11" + strings.Repeat("00", 15), "05"},
		{"01", "", strings.Repeat("ff", 16) + "fb" + strings.Repeat("fe", 15) + strings.Repeat("01", 16), ""},
		{"02", "", "fd" + strings.Repeat("ff", 15), "fa" + strings.Repeat("ff", 15)},
		{"010000000000000004", "", `e33594d7505e43b90000000000000000 3394d7505e4379cd0100000000000000
			00000000000000000000000000000000 01000000000000000000000000000000`, "140000000000000055"},
		{"010000000000000004", "", `e33594d7505e43b90000000000000000 3394d7505e4379cd0100000000000000
			00000000000000000000000000000000`, "13"},
	} {
		key := sixteen(unhex(t, c.r)) + sixteen(unhex(t, c.s))
		got, e := box.Tag(key, unhex(t, c.text))
		wantOK(t, c.text, got, e, sixteen(unhex(t, c.want)))
	}
}

// sixteen is a text and bytes 0 up to sixteen.
func sixteen(s string) string { return s + strings.Repeat("\x00", 16-len(s)) }

// 3.2: texts of all lengths about a piece's, under many keys.
func TestTag(t *testing.T) {
	for seed := range 40 {
		for _, n := range []int{0, 1, 2, 15, 16, 17, 31, 32, 33, 47, 48, 100, 1000} {
			key, text := key32(seed), bytesFrom(seed, n)
			s, e := box.Tag(key, text)
			wantOK(t, "Tag", s, e, modelTag(key, text))
		}
	}
}

// 3.2: bytes 255 and 0 in the key's parts and in the text, where the number goes beyond 2^130 - 5 the most.
func TestTagHigh(t *testing.T) {
	parts := []string{
		strings.Repeat("\xff", 16), strings.Repeat("\x00", 16), sixteen("\x01"), sixteen("\x02"), sixteen("\x04"), sixteen("\x05"),
		strings.Repeat("\xff", 8) + strings.Repeat("\x00", 8), strings.Repeat("\x00", 15) + "\xff", bytesFrom(7, 16),
	}
	var texts []string
	for n := range 70 {
		texts = append(texts, strings.Repeat("\xff", n), strings.Repeat("\x00", n))
	}
	for low := range 8 {
		texts = append(texts, string([]byte{byte(0xf8 + low)})+strings.Repeat("\xff", 15))
	}
	texts = append(texts, strings.Repeat("\xff", 1000), strings.Repeat("\xff", 1<<16), bytesFrom(8, 5000))
	for _, r := range parts {
		for _, s := range parts {
			for _, text := range texts {
				got, e := box.Tag(r+s, text)
				wantOK(t, "Tag", got, e, modelTag(r+s, text))
			}
		}
	}
}

// 3.2: with r 1 a text of one piece is 2^128 and its number, with r 4 four times that: all numbers about 2^130 - 5 come about.
func TestTagAboutThePrime(t *testing.T) {
	top := strings.Repeat("\xff", 16)
	for a := range 256 {
		first := string([]byte{byte(a)}) + top[1:]
		for _, r := range []string{"\x01", "\x04"} {
			for _, text := range []string{first, top + first, top + top + first + sixteen("\x05")} {
				key := sixteen(r) + top
				got, e := box.Tag(key, text)
				wantOK(t, "Tag", got, e, modelTag(key, text))
			}
		}
	}
}

// 3.2: the bits that r loses change nothing, all others do.
func TestTagKeyBits(t *testing.T) {
	lost := unhex(t, "000000f0 030000f0 030000f0 030000f0")
	key, text := bytesFrom(3, 32), bytesFrom(4, 50)
	want := modelTag(key, text)
	for i := range 32 {
		for bit := range 8 {
			b := []byte(key)
			b[i] ^= 1 << bit
			got, e := box.Tag(string(b), text)
			if e != api.OK {
				t.Fatalf("error %d", e)
			}
			if loses := i < 16 && lost[i]>>bit&1 == 1; loses != (got == want) {
				t.Fatalf("byte %d, bit %d of the key: the tag is the same: %t", i, bit, got == want)
			}
		}
	}
}

// 3.2: the chapter's second example, and DOC.md's third: the tag of the empty text.
func TestTagOfNothing(t *testing.T) {
	for seed := range 20 {
		key := key32(seed)
		s, e := box.Tag(key, "")
		wantOK(t, "Tag", s, e, key[16:])
	}
}
