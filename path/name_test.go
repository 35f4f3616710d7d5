package path_test

import (
	"strings"
	"testing"

	"grapnel/api"
	"grapnel/path"
)

func wantName(t *testing.T, s string, want api.Errno) {
	t.Helper()
	if e := path.Name(s); e != want {
		t.Errorf("Name(%q): error %d; want %d", s, e, want)
	}
}

// 10.1: texts of each length up to 300, of a byte that may be and of bytes that may not: what is too long is so, whatever else it is.
func TestNameLengths(t *testing.T) {
	for n := range 301 {
		right, wrong := api.OK, api.ErrPath
		switch {
		case n == 0:
			right = api.ErrPath
		case n > 19:
			right, wrong = api.ErrLong, api.ErrLong
		}
		wantName(t, strings.Repeat("a", n), right)
		for _, b := range []string{"/", " ", "\x00", "\xff"} {
			wantName(t, strings.Repeat(b, n), wrong)
		}
	}
	wantName(t, strings.Repeat("a", 1<<20), api.ErrLong)
}

// 10.1: each byte alone, ahead of others, amid them and behind them, in names of two bytes and of the greatest length, and in what is too long.
func TestNameBytes(t *testing.T) {
	for b := range 256 {
		want := api.ErrPath
		if b >= 33 && b <= 126 && b != '/' {
			want = api.OK
		}
		x := string([]byte{byte(b)})
		if b != '.' {
			wantName(t, x, want)
		}
		for _, s := range []string{x + "a", "a" + x, "a" + x + "b", "." + x + "a", x + x + x, strings.Repeat(x, 19)} {
			wantName(t, s, want)
		}
		for at := range 19 {
			wantName(t, strings.Repeat("n", at)+x+strings.Repeat("n", 18-at), want)
			wantName(t, strings.Repeat("n", at)+x+strings.Repeat("n", 19-at), api.ErrLong)
		}
	}
}

// 10.1: a point and two are no names; points in other numbers, and amid others, are bytes as any.
func TestNamePoints(t *testing.T) {
	wantName(t, ".", api.ErrPath)
	wantName(t, "..", api.ErrPath)
	for _, s := range []string{"...", "....", ".a", "a.", "..a", "a..", "a.b", "a..b", ".a.", strings.Repeat(".", 19)} {
		wantName(t, s, api.OK)
	}
	wantName(t, strings.Repeat(".", 20), api.ErrLong)
}

// 10.1: runes of more bytes than one, and texts that are no UTF-8; the length is told in bytes.
func TestNameRunes(t *testing.T) {
	for _, s := range []string{
		"é", "aé", "éa", "世", "\U0001f600", "\ufffd", "\u0080", "\u0121", "\u212f", "\U0001012f", // the last three: their lowest bytes alone would be in a name, or a slash
		"\x80", "\xbf", "\xc0\xaf", "\xc1\xa1", "\xc3", "a\xc3", "\xc3a", "\xe4\xb8", "\xed\xa0\x80", "\xf4\x90\x80\x80", "\xf8", "\xfe", "\xff",
	} {
		wantName(t, s, api.ErrPath)
		wantName(t, s+strings.Repeat("n", 19-len(s)), api.ErrPath)
		wantName(t, strings.Repeat("n", 19-len(s))+s, api.ErrPath)
		wantName(t, s+strings.Repeat("n", 20-len(s)), api.ErrLong)
	}
	wantName(t, strings.Repeat("é", 9), api.ErrPath)
	wantName(t, strings.Repeat("é", 10), api.ErrLong)
	wantName(t, strings.Repeat("世", 7), api.ErrLong)
}

// 10.1: every text of up to three bytes of those around the bounds.
func TestNameSmall(t *testing.T) {
	for _, l := range rows([]string{"\x00", "\x1f", " ", "!", ".", "/", "0", "a", "}", "~", "\x7f", "\x80", "\xa9", "\xc3", "\xff"}, 3) {
		s := strings.Join(l, "")
		wantName(t, s, nameError(s))
	}
	for _, s := range parts {
		wantName(t, s, nameError(s))
	}
}
