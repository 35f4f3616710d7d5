package vault_test

import (
	"fmt"
	"math/rand"
	"slices"
	"strings"
	"testing"

	"grapnel/api"
	"grapnel/vault"
)

// four is what is sealed, pair what is marked.
type (
	four struct {
		salt            int
		nonce, ad, text string
	}
	pair struct{ label, text string }
)

// number is n as so many bytes: six of the number, and bytes 0.
func number(n, width int) string {
	b := make([]byte, width)
	for i := range 6 {
		b[i] = byte(n >> (8 * i))
	}
	return string(b)
}

// The chapter's first example, and DOC.md's fifth.
func TestExampleHash(t *testing.T) {
	v := vault.Ideal()
	for i, want := range []int{1, 2, 1} {
		wantText(t, "Hash", v.Hash([]string{"x", "y", "x"}[i]), number(want, 32))
	}
}

// The chapter's second example.
func TestExampleMade(t *testing.T) {
	v := vault.Ideal()
	for n := range 5 {
		wantMade(t, v, "a", "t", number(n, 16), false)
	}
	wantText(t, "Mac", v.Mac("a", "t"), number(1, 16))
	for n := range 5 {
		wantMade(t, v, "a", "t", number(n, 16), n == 1)
	}
}

// 5.2: texts have their numbers in the order in which they come first, and keep them.
func TestIdealHash(t *testing.T) {
	v := vault.Ideal()
	for i := range 700 {
		wantText(t, "Hash", v.Hash(fmt.Sprint(i)), number(i+1, 32))
		wantText(t, "Hash again", v.Hash(fmt.Sprint(i/2)), number(i/2+1, 32))
	}
	wantText(t, "Hash of the empty text", v.Hash(""), number(701, 32))
	wantText(t, "Hash of a byte 0", v.Hash("\x00"), number(702, 32))
	wantText(t, "Hash of the empty text", v.Hash(""), number(701, 32))
}

// 5.2: numbers beyond a byte, and beyond two, lowest byte first.
func TestIdealHashMany(t *testing.T) {
	v := vault.Ideal()
	for i := range 1<<16 + 300 {
		wantText(t, "Hash", v.Hash(number(i, 6)), number(i+1, 32))
	}
}

// 5.2: pairs that are cut otherwise, or turned about, are other pairs.
func TestIdealMac(t *testing.T) {
	v := vault.Ideal()
	pairs := []pair{{"ab", "c"}, {"a", "bc"}, {"abc", ""}, {"", "abc"}, {"c", "ab"}, {"bc", "a"}, {"", ""}, {"\x00", ""}, {"", "\x00"}, {"ab", "d"}, {"ac", "c"}}
	for i, p := range pairs {
		wantText(t, "Mac", v.Mac(p.label, p.text), number(i+1, 16))
	}
	for i, p := range pairs {
		wantText(t, "Mac again", v.Mac(p.label, p.text), number(i+1, 16))
		for n := range len(pairs) + 3 {
			wantMade(t, v, p.label, p.text, number(n, 16), n == i+1)
		}
		wantNotMade(t, v, p.label, p.text, number(i+1, 16))
	}
}

// 5.3: fours of which one part alone is unlike, or that are cut otherwise, are other fours.
func TestIdealSeal(t *testing.T) {
	v := vault.Ideal()
	all := []four{
		{1, nonce, "ad", "text"},
		{2, nonce, "ad", "text"}, {0, nonce, "ad", "text"}, {topSalt, nonce, "ad", "text"}, {257, nonce, "ad", "text"},
		{1, "Abcdefghijkl", "ad", "text"}, {1, "abcdefghijkL", "ad", "text"},
		{1, nonce, "aD", "text"}, {1, nonce, "", "text"},
		{1, nonce, "ad", "texT"}, {1, nonce, "ad", ""}, {1, nonce, "", ""},
		{1, nonce, "adt", "ext"}, {1, nonce, "a", "dtext"}, {1, nonce, "", "adtext"}, {1, nonce, "adtext", ""}, {1, nonce, "text", "ad"},
	}
	for i, x := range all {
		wantText(t, "Seal", sealed(t, v, x.salt, x.nonce, x.ad, x.text), x.text+number(i+1, 16))
	}
	for i, x := range all {
		wantText(t, "Seal again", sealed(t, v, x.salt, x.nonce, x.ad, x.text), x.text+number(i+1, 16))
		for n := range len(all) + 3 {
			got, e := v.Open(x.salt, x.nonce, x.ad, x.text+number(n, 16))
			if n == i+1 {
				wantOK(t, "Open", got, e, x.text)
			} else {
				wantError(t, "Open by another number", got, e, api.ErrTag)
			}
		}
	}
}

// 5.3: a text whose end looks like a number.
func TestIdealSealOfSealed(t *testing.T) {
	v := vault.Ideal()
	once := sealed(t, v, 1, nonce, "ad", "text")
	twice := sealed(t, v, 1, nonce, "ad", once)
	wantText(t, "sealed twice", twice, "text"+number(1, 16)+number(2, 16))
	got, e := v.Open(1, nonce, "ad", twice)
	wantOK(t, "Open", got, e, once)
	got, e = v.Open(1, nonce, "ad", got)
	wantOK(t, "Open again", got, e, "text")
	got, e = v.Open(1, nonce, "ad", got+number(2, 16))
	wantError(t, "Open by the other's number", got, e, api.ErrTag)
}

// 5.2, 5.3: the three are counted apart.
func TestIdealCountsApart(t *testing.T) {
	v := vault.Ideal()
	for i := range 5 {
		s := fmt.Sprint(i)
		wantText(t, "Hash", v.Hash(s), number(i+1, 32))
		wantText(t, "Mac", v.Mac("", s), number(2*i+1, 16))
		wantText(t, "Mac", v.Mac(s, ""), number(2*i+2, 16))
		for n := range 3 {
			wantText(t, "Seal", sealed(t, v, n, nonce, "", s), s+number(3*i+n+1, 16))
		}
	}
}

// 5.2, 5.3: Made and Open number nothing, nor does a Seal that is refused.
func TestIdealNumbersNothing(t *testing.T) {
	v := vault.Ideal()
	for n := range 4 {
		wantMade(t, v, "a", "t", number(n, 16), false)
		for _, s := range []string{"", "text", number(n, 16), "text" + number(n, 16)} {
			_, e := v.Open(1, nonce, "ad", s)
			if e != api.ErrTag && e != api.ErrShort {
				t.Fatalf("Open ahead of Seal: error %d", e)
			}
			got, e := v.Seal(-1, nonce, "ad", s)
			wantError(t, "Seal", got, e, api.ErrArg)
			got, e = v.Seal(1, nonce+"m", "ad", s)
			wantError(t, "Seal", got, e, api.ErrArg)
		}
	}
	wantText(t, "Mac of another pair", v.Mac("b", "t"), number(1, 16))
	wantMade(t, v, "a", "t", number(1, 16), false)
	wantMade(t, v, "a", "t", number(2, 16), false)
	wantText(t, "Mac", v.Mac("a", "t"), number(2, 16))
	wantText(t, "Seal of another four", sealed(t, v, 2, nonce, "ad", "text"), "text"+number(1, 16))
	got, e := v.Open(1, nonce, "ad", "text"+number(1, 16))
	wantError(t, "Open", got, e, api.ErrTag)
	wantText(t, "Seal", sealed(t, v, 1, nonce, "ad", "text"), "text"+number(2, 16))
}

// 5.2, 5.3: each of the 16 bytes of a number counts, those beyond the six as well.
func TestIdealTagBytes(t *testing.T) {
	v := vault.Ideal()
	tag := v.Mac("a", "t")
	c := sealed(t, v, 1, nonce, "", "")
	for i := range 16 {
		wantMade(t, v, "a", "t", with(tag, i), false)
		got, e := v.Open(1, nonce, "", with(c, i))
		wantError(t, "Open", got, e, api.ErrTag)
	}
}

// 5.4: two vaults know nothing of each other.
func TestIdealTwo(t *testing.T) {
	a, b := vault.Ideal(), vault.Ideal()
	tag, c := a.Mac("a", "t"), sealed(t, a, 1, nonce, "ad", "text")
	a.Hash("x")
	wantMade(t, b, "a", "t", tag, false)
	got, e := b.Open(1, nonce, "ad", c)
	wantError(t, "Open of the other's", got, e, api.ErrTag)
	wantText(t, "Hash", b.Hash("y"), number(1, 32))
	wantText(t, "Mac", b.Mac("b", "u"), number(1, 16))
	wantText(t, "Seal", sealed(t, b, 2, nonce, "ad", "text"), "text"+number(1, 16))
	wantText(t, "Hash", a.Hash("y"), number(2, 32))
	wantMade(t, a, "b", "u", tag, false)
	got, e = a.Open(1, nonce, "ad", c)
	wantOK(t, "Open", got, e, "text")
}

// model is the ideal vault as the chapter's words say it: lists that are gone through.
type model struct {
	texts []string
	pairs []pair
	fours []four
}

// place is a thing's number in a list, which grows by it if it is not there.
func place[T comparable](all *[]T, x T) int {
	if !slices.Contains(*all, x) {
		*all = append(*all, x)
	}
	return slices.Index(*all, x) + 1
}

func (m *model) open(x four) (string, api.Errno) {
	if x.salt < 0 || x.salt > topSalt || len(x.nonce) != 12 {
		return "", api.ErrArg
	}
	at := len(x.text) - 16
	if at < 0 {
		return "", api.ErrShort
	}
	tag := x.text[at:]
	x.text = x.text[:at]
	if n := slices.Index(m.fours, x); n < 0 || tag != number(n+1, 16) {
		return "", api.ErrTag
	}
	return x.text, api.OK
}

func (m *model) seal(x four) (string, api.Errno) {
	if x.salt < 0 || x.salt > topSalt || len(x.nonce) != 12 {
		return "", api.ErrArg
	}
	return x.text + number(place(&m.fours, x), 16), api.OK
}

// step does one thing that chance chooses, to both, out of so few texts that many come again.
func step(t *testing.T, v *vault.Vault, m *model, chance *rand.Rand) {
	t.Helper()
	short := func() string { return strings.Repeat("a", chance.Intn(3)) + strings.Repeat("b", chance.Intn(3)) }
	x := four{chance.Intn(4) - 1, nonce, short(), short()}
	if chance.Intn(20) == 0 {
		x.nonce = nonce[:11]
	}
	guess := number(chance.Intn(30), 16)
	switch chance.Intn(5) {
	case 0:
		wantText(t, "Hash", v.Hash(x.text), number(place(&m.texts, x.text), 32))
	case 1:
		wantText(t, "Mac", v.Mac(x.ad, x.text), number(place(&m.pairs, pair{x.ad, x.text}), 16))
	case 2:
		n := slices.Index(m.pairs, pair{x.ad, x.text})
		wantMade(t, v, x.ad, x.text, guess, n >= 0 && guess == number(n+1, 16))
	case 3:
		got, e := v.Seal(x.salt, x.nonce, x.ad, x.text)
		if want, wantErr := m.seal(x); got != want || e != wantErr {
			t.Fatalf("Seal of %v: %x, error %d; want %x, error %d", x, got, e, want, wantErr)
		}
	default:
		x.text += guess
		got, e := v.Open(x.salt, x.nonce, x.ad, x.text)
		if want, wantErr := m.open(x); got != want || e != wantErr {
			t.Fatalf("Open of %v: %x, error %d; want %x, error %d", x, got, e, want, wantErr)
		}
	}
}

// 5.2 to 5.4: rows of calls to two vaults in turns, held against the model; in the end all that was made is asked for.
func TestIdealRows(t *testing.T) {
	for seed := range int64(30) {
		chance := rand.New(rand.NewSource(seed))
		vaults := []*vault.Vault{vault.Ideal(), vault.Ideal()}
		models := []*model{{}, {}}
		for range 600 {
			i := chance.Intn(2)
			step(t, vaults[i], models[i], chance)
		}
		for i, v := range vaults {
			wantAllMade(t, v, models[i])
		}
	}
}

// 5.4: unlike texts have unlike hashes; what was marked and sealed is told to be, by its own number alone.
func wantAllMade(t *testing.T, v *vault.Vault, m *model) {
	t.Helper()
	hashes := map[string]int{}
	for _, s := range m.texts {
		hashes[v.Hash(s)]++
	}
	if len(hashes) != len(m.texts) {
		t.Fatalf("%d texts, %d hashes", len(m.texts), len(hashes))
	}
	for i, p := range m.pairs {
		for n := range m.pairs {
			wantMade(t, v, p.label, p.text, number(n+1, 16), n == i)
		}
	}
	for i, x := range m.fours {
		got, e := v.Open(x.salt, x.nonce, x.ad, x.text+number(i+1, 16))
		wantOK(t, "Open", got, e, x.text)
	}
}
