package box_test

import (
	"testing"

	"grapnel/api"
	"grapnel/box"
)

func edges() []int { return []int{0, 1, 2, 15, 16, 17, 31, 32, 33, 63, 64, 65, 448, 1000} }

func sealed(t *testing.T, key, nonce, ad, s string) string {
	t.Helper()
	c, e := box.Seal(key, nonce, ad, s)
	if e != api.OK {
		t.Fatalf("Seal: error %d", e)
	}
	return c
}

// 3.3: the chapter's first example: RFC 8439, 2.8.2.
func TestSealExample(t *testing.T) {
	key, nonce, ad := upFrom(0x80, 32), unhex(t, "07000000")+upFrom(0x40, 8), "PQRS"+upFrom(0xc0, 8)
	want := unhex(t, `d31a8d34648e60db7b86afbc53ef7ec2 a4aded51296e08fea9e2b5a736ee62d6
		3dbea45e8ca9671282fafb69da92728b 1a71de0a9e060b2905d6a5b67ecd3b36 92ddbd7f2d778b8c9803aee328091b58
		fab324e4fad675945585808b4831d7bc 3ff4def08e4b7a9de576d26586cec64b 6116
		1ae10b594f09e26a7e902ecbd0600691`)
	c, e := box.Seal(key, nonce, ad, sunscreen)
	wantOK(t, "Seal", c, e, want)
	s, e := box.Open(key, nonce, ad, want)
	wantOK(t, "Open", s, e, sunscreen)
}

// 3.3, 3.5: texts and ads of all lengths about a piece's and a block's; Open tells what was sealed.
func TestSealAndOpen(t *testing.T) {
	for i, m := range edges() {
		for j, n := range edges() {
			key, nonce, ad, text := key32(i), nonce12(j), bytesFrom(i, m), bytesFrom(j, n)
			want := modelSeal(key, nonce, ad, text)
			c, e := box.Seal(key, nonce, ad, text)
			wantOK(t, "Seal", c, e, want)
			s, e := box.Open(key, nonce, ad, c)
			wantOK(t, "Open", s, e, text)
		}
	}
}

// 3.3: Seal is Stream from 1 on, and a tag under block 0.
func TestSealParts(t *testing.T) {
	key, nonce, ad, text := key32(1), nonce12(1), bytesFrom(1, 20), bytesFrom(2, 100)
	body, e := box.Stream(key, nonce, 1, text)
	wantOK(t, "Stream", body, e, modelStream(key, nonce, 1, text))
	tagKey, e := box.Stream(key, nonce, 0, string(make([]byte, 32)))
	wantOK(t, "Stream", tagKey, e, modelBlock(key, nonce, 0)[:32])
	tag, e := box.Tag(tagKey, ad+fill(ad)+body+fill(body)+length(ad)+length(body))
	wantOK(t, "Tag", sealed(t, key, nonce, ad, text), e, body+tag)
}

// 3.3: fewer bytes than a tag's are short, whatever they are; a tag's bytes alone are the seal of nothing, or of no one.
func TestOpenShort(t *testing.T) {
	key, nonce := key32(1), nonce12(1)
	for _, ad := range []string{"", "ad", bytesFrom(0, 40)} {
		c := sealed(t, key, nonce, ad, "")
		if len(c) != api.TagBytes {
			t.Fatalf("the seal of nothing has %d bytes", len(c))
		}
		for n := range api.TagBytes {
			s, e := box.Open(key, nonce, ad, c[:n])
			wantError(t, "Open of fewer bytes", s, e, api.ErrShort)
			s, e = box.Open(key, nonce, ad, bytesFrom(n, n))
			wantError(t, "Open of fewer bytes", s, e, api.ErrShort)
		}
		s, e := box.Open(key, nonce, ad, c)
		wantOK(t, "Open of a tag alone", s, e, "")
		s, e = box.Open(key, nonce, ad, bytesFrom(9, api.TagBytes))
		wantError(t, "Open of a tag that is none", s, e, api.ErrTag)
		s, e = box.Open(key, nonce, ad, string(make([]byte, api.TagBytes)))
		wantError(t, "Open of bytes 0", s, e, api.ErrTag)
	}
}

// turned is a text, one of whose bits is another one.
func turned(s string, i, bit int) string {
	b := []byte(s)
	b[i] ^= 1 << bit
	return string(b)
}

// 3.3: nothing opens, if any one byte of what was sealed, of ad, of the key or of the nonce was changed.
func TestOpenChanged(t *testing.T) {
	for _, n := range []int{0, 1, 16, 17, 70} {
		given := [4]string{key32(n), nonce12(n), bytesFrom(1, n), ""}
		given[3] = sealed(t, given[0], given[1], given[2], bytesFrom(2, n))
		for which := range given {
			for i := range len(given[which]) {
				for bit := range 8 {
					g := given
					g[which] = turned(g[which], i, bit)
					s, e := box.Open(g[0], g[1], g[2], g[3])
					wantError(t, "Open of what was changed", s, e, api.ErrTag)
				}
			}
		}
		s, e := box.Open(given[0], given[1], given[2], given[3])
		wantOK(t, "Open of what was not", s, e, bytesFrom(2, n))
	}
}

// 3.3: bytes more or fewer, at either end, of what was sealed or of ad; bytes that went over from one to the other.
func TestOpenMoved(t *testing.T) {
	key, nonce, ad, text := key32(1), nonce12(1), bytesFrom(1, 32), bytesFrom(2, 32)
	c := sealed(t, key, nonce, ad, text)
	for _, g := range [][2]string{
		{ad, c[1:]}, {ad, c[:len(c)-1]}, {ad, c + "\x00"}, {ad, "\x00" + c}, {ad, c[16:]}, {ad, c[len(c)-16:]},
		{ad[1:], c}, {ad[:31], c}, {ad + "\x00", c}, {"\x00" + ad, c}, {"", c}, {ad[:16], c}, {ad + ad, c},
		{ad + c[:16], c[16:]}, {ad[:16], ad[16:] + c}, {c, ad}, {"", ad + c},
	} {
		s, e := box.Open(key, nonce, g[0], g[1])
		wantError(t, "Open", s, e, api.ErrTag)
	}
	zeros := string(make([]byte, 16))
	padded := sealed(t, key, nonce, "ad"+zeros[:14], "")
	s, e := box.Open(key, nonce, "ad", padded)
	wantError(t, "Open with an ad that lacks its bytes 0", s, e, api.ErrTag)
}

// 3.4: the same text, another length, and each byte and bit that differs.
func TestSame(t *testing.T) {
	for _, n := range []int{0, 1, 2, 15, 16, 17, 64, 1000} {
		a := bytesFrom(1, n)
		if b := string([]byte(a)); !box.Same(a, b) {
			t.Fatalf("%d bytes are not the same", n)
		}
		for _, b := range []string{a + "a", a + "\x00", "\x00" + a, a + a + "b"} {
			if box.Same(a, b) || box.Same(b, a) {
				t.Fatalf("%d and %d bytes are the same", len(a), len(b))
			}
		}
		for i := range n {
			for bit := range 8 {
				b := turned(a, i, bit)
				if box.Same(a, b) || box.Same(b, a) {
					t.Fatalf("byte %d of %d is another one", i, n)
				}
			}
		}
	}
}

// 3.4: differences that make up for each other are still differences.
func TestSameSums(t *testing.T) {
	for _, c := range [][2]string{{"ab", "ba"}, {"aa", "bb"}, {"\x00\x01", "\x01\x00"}, {"\xff\xff", "\x00\x00"}, {"", "a"}} {
		if box.Same(c[0], c[1]) || box.Same(c[1], c[0]) {
			t.Fatalf("%x and %x are the same", c[0], c[1])
		}
	}
	if !box.Same("", "") {
		t.Fatal("two empty texts are not the same")
	}
}

func streamed(t *testing.T, key, nonce string, at int, s string) string {
	t.Helper()
	c, e := box.Stream(key, nonce, at, s)
	if e != api.OK {
		t.Fatalf("Stream: error %d", e)
	}
	return c
}

// 3.5: Stream of Stream is what it was.
func TestStreamTwice(t *testing.T) {
	for _, at := range []int{0, 1, 77, last - 16} {
		for i, n := range edges() {
			key, nonce, text := key32(i), nonce12(i), bytesFrom(i, n)
			once := streamed(t, key, nonce, at, text)
			if n > 15 && once == text {
				t.Fatal("Stream changes nothing")
			}
			wantOK(t, "Stream of Stream", streamed(t, key, nonce, at, once), api.OK, text)
		}
	}
}

// 3.5: Stream of two parts is that of both, if the first one is whole blocks.
func TestStreamInParts(t *testing.T) {
	key, nonce, text := key32(1), nonce12(1), bytesFrom(1, 400)
	for _, at := range []int{0, 1, last - 6} {
		all := streamed(t, key, nonce, at, text)
		for n := 0; n <= len(text); n += 64 {
			parts := streamed(t, key, nonce, at, text[:n]) + streamed(t, key, nonce, at+n/64, text[n:])
			wantOK(t, "two parts", parts, api.OK, all)
		}
		short := streamed(t, key, nonce, at, text[:63]) + streamed(t, key, nonce, at+1, text[63:])
		if short == all {
			t.Fatal("a part that is no whole block goes on as one")
		}
	}
}
