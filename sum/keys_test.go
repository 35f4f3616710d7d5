package sum_test

import (
	"crypto/hkdf"
	"crypto/pbkdf2"
	"crypto/sha256"
	"math"
	"strings"
	"testing"

	"grapnel/api"
	"grapnel/sum"
)

const (
	mostExpanded  = 8160
	mostStretched = 1024
	mostRounds    = 1000
)

func stdExpand(t *testing.T, key, info string, n int) string {
	t.Helper()
	b, err := hkdf.Expand(sha256.New, []byte(key), info, n)
	if err != nil {
		t.Fatal(err)
	}
	return string(b)
}

func stdStretch(t *testing.T, pass, salt string, rounds, n int) string {
	t.Helper()
	b, err := pbkdf2.Key(sha256.New, pass, []byte(salt), rounds, n)
	if err != nil {
		t.Fatal(err)
	}
	return string(b)
}

func wantOK(t *testing.T, what, got string, e api.Errno, want string) {
	t.Helper()
	if e != api.OK {
		t.Errorf("%s: error %d", what, e)
	}
	wantBytes(t, what, got, want)
}

func wantArg(t *testing.T, what, got string, e api.Errno) {
	t.Helper()
	if got != "" || e != api.ErrArg {
		t.Errorf("%s: got %x, error %d; want nothing, error %d", what, got, e, api.ErrArg)
	}
}

// 2.2: RFC 5869's first and third examples.
func TestHkdfExamples(t *testing.T) {
	secret := strings.Repeat("\x0b", 22)
	key := sum.Extract(text0to(13), secret)
	wantBytes(t, "Extract", key, unhex(t, "077709362c2e32df0ddc3f0dc47bba63 90b6c73bb50f9c3122ec844ad7c2b3e5"))
	s, e := sum.Expand(key, "\xf0\xf1\xf2\xf3\xf4\xf5\xf6\xf7\xf8\xf9", 42)
	wantOK(t, "Expand", s, e, unhex(t, "3cb25f25faacd57a90434f64d0362f2a 2d2d0a90cf1a5a4c5db02d56ecc4c5bf 34007208d5b887185865"))
	key = sum.Extract("", secret)
	wantBytes(t, "Extract without a salt", key, unhex(t, "19ef24a32c717b167f33a91d6f648bdf 96596776afdb6377ac434c1c293ccb04"))
	s, e = sum.Expand(key, "", 42)
	wantOK(t, "Expand without a purpose", s, e, unhex(t, "8da4e775a563c18f715f802a063c5a31 b8a11f5c5ee1879ec3454e5f3c738d2d 9d201395faa4b61a96c8"))
}

// text0to is the bytes 0, 1, .., n - 1.
func text0to(n int) string {
	b := make([]byte, n)
	for i := range b {
		b[i] = byte(i)
	}
	return string(b)
}

// 2.2: the salt is the key, and the secret the text.
func TestExtract(t *testing.T) {
	for _, k := range []int{0, 1, 32, 63, 64, 65, 200} {
		for _, n := range []int{0, 1, 32, 64, 65, 300} {
			salt, secret := text(k), text(n)+"secret"
			wantBytes(t, "Extract", sum.Extract(salt, secret), stdMac(salt, secret))
			wantBytes(t, "Extract and Mac", sum.Extract(salt, secret), sum.Mac(salt, secret))
		}
	}
}

// 2.2: at the edges of n, under keys and for purposes of various lengths.
func TestExpand(t *testing.T) {
	for _, k := range []int{0, 1, 32, 63, 64, 65, 100} {
		for _, i := range []int{0, 1, 31, 64, 200} {
			key, info := text(k), text(i)
			for _, n := range []int{0, 1, 31, 32, 33, 63, 64, 65, 1000, mostExpanded - 1, mostExpanded} {
				s, e := sum.Expand(key, info, n)
				wantOK(t, "Expand", s, e, stdExpand(t, key, info, n))
			}
		}
	}
}

// 2.2: t(i) as the words say it, up to the last one that a byte counts.
func TestExpandChain(t *testing.T) {
	want, last := "", ""
	for i := 1; i <= 255; i++ {
		last = stdMac("key", last+"info"+string([]byte{byte(i)}))
		want += last
	}
	s, e := sum.Expand("key", "info", mostExpanded)
	wantOK(t, "Expand", s, e, want)
}

// 2.2: an n that may not be, whatever the key and the purpose.
func TestExpandRefuses(t *testing.T) {
	for _, n := range []int{-1, -32, mostExpanded + 1, 255*32 + 32, math.MaxInt, math.MaxInt - 31, math.MinInt} {
		s, e := sum.Expand("key", "info", n)
		wantArg(t, "Expand", s, e)
		s, e = sum.Expand("", "", n)
		wantArg(t, "Expand of nothing", s, e)
	}
}

// 2.3: the chapter's example, and what is widely told of the same pass phrase and salt.
func TestStretchExamples(t *testing.T) {
	for _, c := range []struct {
		rounds int
		want   string
	}{
		{1, "120fb6cf fcf8b32c 43e72252 56c4f837 a86548c9 2ccc3548 0805987c b70be17b"},
		{2, "ae4d0c95 af6b46d3 2d0adff9 28f06dd0 2a303f8e f3c251df d6e2d85a 95474c43"},
	} {
		s, e := sum.Stretch("password", "salt", c.rounds, 32)
		wantOK(t, "Stretch", s, e, unhex(t, c.want))
	}
	s, e := sum.Stretch("passwd", "salt", 1, 64) // RFC 7914
	wantOK(t, "Stretch of two blocks", s, e, unhex(t,
		"55ac046e56e3089fec1691c22544b605f94185216dde0465e68b9d57c20dacbc 49ca9cccf179b645991664b39d77ef317c71b845b1e30bd509112041d3a19783"))
}

// 2.3: at the edges of rounds and n.
func TestStretch(t *testing.T) {
	for _, rounds := range []int{1, 2, 3, 999, mostRounds} {
		for _, n := range []int{1, 31, 32, 33, 64, 65, mostStretched - 1, mostStretched} {
			s, e := sum.Stretch("pass", "salt", rounds, n)
			wantOK(t, "Stretch", s, e, stdStretch(t, "pass", "salt", rounds, n))
		}
		s, e := sum.Stretch("pass", "salt", rounds, 0)
		wantOK(t, "Stretch to nothing", s, e, "")
	}
}

// 2.3: pass phrases and salts of all lengths at a block's edges.
func TestStretchLengths(t *testing.T) {
	lengths := []int{0, 1, 16, 55, 60, 63, 64, 65, 200}
	for _, p := range lengths {
		for _, k := range lengths {
			s, e := sum.Stretch(text(p), text(k), 3, 40)
			wantOK(t, "Stretch", s, e, stdStretch(t, text(p), text(k), 3, 40))
		}
	}
}

// 2.3: rounds, or an n, that may not be; also both, and each at the other one's edges.
func TestStretchRefuses(t *testing.T) {
	wrongRounds := []int{0, -1, mostRounds + 1, math.MaxInt, math.MinInt}
	wrongN := []int{-1, mostStretched + 1, math.MaxInt, math.MaxInt - 31, math.MinInt}
	for _, rounds := range wrongRounds {
		for _, n := range append([]int{0, 1, 33, mostStretched}, wrongN...) {
			s, e := sum.Stretch("a", "b", rounds, n)
			wantArg(t, "Stretch in wrong rounds", s, e)
		}
	}
	for _, n := range wrongN {
		for _, rounds := range []int{1, 2, mostRounds} {
			s, e := sum.Stretch("a", "b", rounds, n)
			wantArg(t, "Stretch to a wrong length", s, e)
		}
	}
}

// 2.4: a key of more than 64 bytes stands for its sum, one of 64 for itself.
func TestLongKeys(t *testing.T) {
	for _, k := range []int{65, 66, 100, 128, 1000} {
		key := text(k)
		wantSameKey(t, key, sum.Sum(key))
	}
	if key := text(64); sum.Mac(key, "s") == sum.Mac(sum.Sum(key), "s") {
		t.Error("a key of 64 bytes stands for its sum")
	}
}

// 2.4: bytes 0 behind a key change nothing, up to 64 bytes in all.
func TestKeysFilledUp(t *testing.T) {
	for _, k := range []int{0, 1, 31, 32, 63} {
		for _, n := range []int{k + 1, 50, 63, 64} {
			if n > k {
				wantSameKey(t, text(k), text(k)+strings.Repeat("\x00", n-k))
			}
		}
	}
	for _, other := range []string{"k" + strings.Repeat("\x00", 64), "\x00k"} {
		if sum.Mac("k", "s") == sum.Mac(other, "s") {
			t.Errorf("the key %q is the same one as \"k\"", other)
		}
	}
}

// wantSameKey asks all that takes a key.
func wantSameKey(t *testing.T, a, b string) {
	t.Helper()
	wantBytes(t, "Mac", sum.Mac(a, "s"), sum.Mac(b, "s"))
	wantBytes(t, "Extract", sum.Extract(a, "s"), sum.Extract(b, "s"))
	x, e := sum.Expand(a, "s", 70)
	y, f := sum.Expand(b, "s", 70)
	wantOK(t, "Expand", x, e, y)
	wantOK(t, "Expand", y, f, x)
	x, e = sum.Stretch(a, "s", 3, 70)
	y, f = sum.Stretch(b, "s", 3, 70)
	wantOK(t, "Stretch", x, e, y)
	wantOK(t, "Stretch", y, f, x)
}

// 2.4: fewer bytes are the beginning of more.
func TestFewerBytes(t *testing.T) {
	all, e := sum.Expand("key", "info", mostExpanded)
	if e != api.OK || len(all) != mostExpanded {
		t.Fatalf("Expand: %d bytes, error %d", len(all), e)
	}
	for n := range 200 {
		s, e := sum.Expand("key", "info", n)
		wantOK(t, "Expand", s, e, all[:n])
	}
	all, e = sum.Stretch("pass", "salt", 2, mostStretched)
	if e != api.OK || len(all) != mostStretched {
		t.Fatalf("Stretch: %d bytes, error %d", len(all), e)
	}
	for n := range mostStretched + 1 {
		s, e := sum.Stretch("pass", "salt", 2, n)
		wantOK(t, "Stretch", s, e, all[:n])
	}
}
