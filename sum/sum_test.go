package sum_test

import (
	"crypto/hmac"
	"crypto/sha256"
	"encoding/hex"
	"strings"
	"testing"

	"grapnel/sum"
)

// text is n bytes that don't repeat within a block, those above 127 and 0 among them.
func text(n int) string {
	b := make([]byte, n)
	for i := range b {
		b[i] = byte(i*167 + i/251)
	}
	return string(b)
}

// stdSum and stdMac are Go's own, which the package is held against.
func stdSum(s string) string {
	d := sha256.Sum256([]byte(s))
	return string(d[:])
}

func stdMac(key, s string) string {
	h := hmac.New(sha256.New, []byte(key))
	h.Write([]byte(s))
	return string(h.Sum(nil))
}

// unhex is the bytes that a test has written out, blanks between them or not.
func unhex(t *testing.T, s string) string {
	t.Helper()
	b, err := hex.DecodeString(strings.ReplaceAll(s, " ", ""))
	if err != nil {
		t.Fatal(err)
	}
	return string(b)
}

func wantBytes(t *testing.T, what, got, want string) {
	t.Helper()
	if got != want {
		t.Fatalf("%s: got %x, want %x", what, got, want)
	}
}

// 2.1: the chapter's example, which is the second one of the whole, and sums that FIPS 180-4's examples tell.
func TestSumExamples(t *testing.T) {
	for _, c := range []struct{ text, want string }{
		{"", "e3b0c442 98fc1c14 9afbf4c8 996fb924 27ae41e4 649b934c a495991b 7852b855"},
		{"abc", "ba7816bf 8f01cfea 414140de 5dae2223 b00361a3 96177a9c b410ff61 f20015ad"},
		{
			"abcdbcdecdefdefgefghfghighijhijkijkljklmklmnlmnomnopnopq",
			"248d6a61 d20638b8 e5c02693 0c3e6039 a33ce459 64ff2167 f6ecedd4 19db06c1",
		},
		{
			strings.Repeat("a", 1000000),
			"cdc76e5c 9914fb92 81a1c7e2 84d73e67 f1809a48 a497200e 046d39cc c7112cd0",
		},
	} {
		wantBytes(t, "Sum of "+c.text[:min(len(c.text), 60)], sum.Sum(c.text), unhex(t, c.want))
	}
}

// 2.1: every length up to several blocks, so all edges of the last block, and some long texts.
func TestSumLengths(t *testing.T) {
	for n := range 6 * 64 {
		wantBytes(t, "Sum", sum.Sum(text(n)), stdSum(text(n)))
	}
	for _, n := range []int{8191, 8192, 8193, 65536 + 55, 65536 + 56, 1<<21 - 1} {
		wantBytes(t, "Sum", sum.Sum(text(n)), stdSum(text(n)))
	}
}

// 2.1: bytes 0 and bytes 255 count as others do, and so does how many there are of them.
func TestSumSameBytes(t *testing.T) {
	for _, n := range []int{1, 55, 56, 63, 64, 65, 119, 120, 128} {
		for _, b := range []string{"\x00", "\x80", "\xff"} {
			s := strings.Repeat(b, n)
			wantBytes(t, "Sum", sum.Sum(s), stdSum(s))
		}
	}
}

// 2.1: wherever a text is cut in three, empty parts among them.
func TestMixCutAnywhere(t *testing.T) {
	s := text(130)
	want := stdSum(s)
	for i := range len(s) + 1 {
		for j := i; j <= len(s); j++ {
			m := sum.New()
			m.Feed(s[:i])
			m.Feed(s[i:j])
			m.Feed(s[j:])
			if m.Told() != want {
				t.Fatalf("cut at %d and %d: got %x, want %x", i, j, m.Told(), want)
			}
		}
	}
}

// 2.1: asking changes nothing, however often, ahead of a part, between two, and behind the last one.
func TestMixAskedInBetween(t *testing.T) {
	m := sum.New()
	all := ""
	for _, n := range []int{0, 1, 0, 54, 1, 7, 1, 1, 63, 64, 0, 65, 500, 3, 0} {
		m.Feed(text(n))
		all += text(n)
		for range 3 {
			wantBytes(t, "Told", m.Told(), stdSum(all))
		}
	}
	fresh := sum.New()
	for range 2 {
		wantBytes(t, "Told of nothing", fresh.Told(), stdSum(""))
	}
	m = sum.New()
	for i := range 300 {
		wantBytes(t, "Told byte by byte", m.Told(), stdSum(text(i)))
		m.Feed(text(300)[i : i+1])
	}
}

// 2.1: how many bits a text has needs more than four of its eight bytes.
func TestMixOfManyBits(t *testing.T) {
	m, std := sum.New(), sha256.New()
	part := text(1 << 20)
	for range 1 << 9 {
		m.Feed(part)
		std.Write([]byte(part))
	}
	wantBytes(t, "Told of 2^32 bits", m.Told(), string(std.Sum(nil)))
}

// 2.1: mixes have nothing of each other.
func TestMixesInTurn(t *testing.T) {
	a, b := sum.New(), sum.New()
	allA, allB := "", ""
	for i := range 40 {
		a.Feed(text(i))
		allA += text(i)
		b.Feed(strings.Repeat("b", 3*i))
		allB += strings.Repeat("b", 3*i)
		wantBytes(t, "the first mix", a.Told(), stdSum(allA))
		wantBytes(t, "the second mix", b.Told(), stdSum(allB))
	}
	wantBytes(t, "a new mix", sum.New().Told(), stdSum(""))
	wantBytes(t, "Sum beside mixes", sum.Sum("abc"), stdSum("abc"))
}

// 2.1: a copy and what it was copied from go on each for itself, having no memory in common.
func TestMixCopied(t *testing.T) {
	m := sum.New()
	m.Feed(text(70))
	c := *m
	m.Feed("one")
	c.Feed("another")
	wantBytes(t, "the mix", m.Told(), stdSum(text(70)+"one"))
	wantBytes(t, "its copy", c.Told(), stdSum(text(70)+"another"))
}

// 2.1: of a mix that New did not give.
func TestMixNotMade(t *testing.T) {
	var zero sum.Mix
	for what, m := range map[string]*sum.Mix{"nil": nil, "the zero mix": &zero, "new": new(sum.Mix)} {
		for _, s := range []string{"", "abc", text(64), text(200)} {
			if got := m.Told(); got != "" {
				t.Errorf("%s: told %x", what, got)
			}
			m.Feed(s)
			if got := m.Told(); got != "" {
				t.Errorf("%s, fed %d bytes: told %x", what, len(s), got)
			}
		}
	}
	if zero != (sum.Mix{}) {
		t.Error("Feed did something to a mix that New did not give")
	}
}

// 2.1: HMACs that RFC 4231 tells, and one of the shared tests' text.
func TestMacExamples(t *testing.T) {
	for _, c := range []struct{ key, text, want string }{
		{"", "", "b613679a 0814d9ec 772f95d7 78c35fc5 ff1697c4 93715653 c6c71214 4292c5ad"},
		{
			strings.Repeat("\x0b", 20), "Hi There",
			"b0344c61 d8db3853 5ca8afce af0bf12b 881dc200 c9833da7 26e9376c 2e32cff7",
		},
		{
			"Jefe", "what do ya want for nothing?",
			"5bdcc146 bf60754e 6a042426 089575c7 5a003f08 9d273983 9dec58b9 64ec3843",
		},
		{
			strings.Repeat("\xaa", 131), "Test Using Larger Than Block-Size Key - Hash Key First",
			"60e43159 1ee0b67f 0d8a26aa cbf5b77f 8e0bc621 3728c514 0546040f 0ee37f54",
		},
		{
			"key", "The quick brown fox jumps over the lazy dog",
			"f7bc83f4 30538424 b13298e6 aa6fb143 ef4d59a1 49461759 97479dbc 2d1a3cd8",
		},
	} {
		wantBytes(t, "Mac of "+c.text, sum.Mac(c.key, c.text), unhex(t, c.want))
	}
}

// 2.1: keys and texts of all lengths at a block's edges.
func TestMacLengths(t *testing.T) {
	lengths := []int{0, 1, 31, 32, 33, 55, 56, 63, 64, 65, 100, 127, 128, 129, 1000}
	for _, k := range lengths {
		for _, n := range lengths {
			key, s := text(k), text(n)
			wantBytes(t, "Mac", sum.Mac(key, s), stdMac(key, s))
		}
	}
}
