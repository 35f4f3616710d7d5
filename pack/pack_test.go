package pack_test

import (
	"math"
	"strings"
	"testing"

	"grapnel/api"
	"grapnel/pack"
)

// widths are those that a number may have, and wrongWidths some that it may not.
var (
	widths      = []int{1, 2, 3, 4, 5, 6}
	wrongWidths = []int{0, 7, 8, 64, -1, -6, math.MaxInt, math.MinInt}
)

func zeros(n int) string { return strings.Repeat("\x00", n) }

func wantText(t *testing.T, what, got string, e api.Errno, want string, wantErr api.Errno) {
	t.Helper()
	if got != want || e != wantErr {
		t.Errorf("%s: got %q, error %d; want %q, error %d", what, got, e, want, wantErr)
	}
}

func wantNumber(t *testing.T, what string, got int, e api.Errno, want int, wantErr api.Errno) {
	t.Helper()
	if got != want || e != wantErr {
		t.Errorf("%s: got %d, error %d; want %d, error %d", what, got, e, want, wantErr)
	}
}

// 1.1, and the first of the whole's ten examples.
func TestPutExamples(t *testing.T) {
	for _, c := range []struct {
		n, width int
		want     string
		e        api.Errno
	}{
		{300, 2, "\x2c\x01", api.OK},
		{256, 1, "", api.ErrRange},
		{0, 1, "\x00", api.OK},
		{0, 6, "\x00\x00\x00\x00\x00\x00", api.OK},
		{255, 1, "\xff", api.OK},
		{1, 3, "\x01\x00\x00", api.OK},
		{0x060504030201, 6, "\x01\x02\x03\x04\x05\x06", api.OK},
		{0x0504030201, 5, "\x01\x02\x03\x04\x05", api.OK},
	} {
		s, e := pack.Put(c.n, c.width)
		wantText(t, "Put", s, e, c.want, c.e)
	}
}

// 1.1: at a width's bounds.
func TestPutBounds(t *testing.T) {
	for _, w := range widths {
		beyond := 1
		for range w {
			beyond *= 256
		}
		s, e := pack.Put(beyond-1, w)
		wantText(t, "Put of the greatest", s, e, strings.Repeat("\xff", w), api.OK)
		for _, n := range []int{beyond, beyond + 1, 256 * beyond, -1, -beyond, math.MaxInt, math.MinInt} {
			s, e := pack.Put(n, w)
			wantText(t, "Put of a number without room", s, e, "", api.ErrRange)
		}
	}
}

// 1.1: a wrong width is told ahead of a number without room.
func TestPutWidths(t *testing.T) {
	for _, w := range wrongWidths {
		for _, n := range []int{0, 1, -1, math.MaxInt, math.MinInt} {
			s, e := pack.Put(n, w)
			wantText(t, "Put of a wrong width", s, e, "", api.ErrArg)
		}
	}
}

// 1.1.
func TestGetExamples(t *testing.T) {
	for _, c := range []struct {
		s               string
		at, width, want int
		e               api.Errno
	}{
		{"\x2c\x01", 0, 2, 300, api.OK},
		{"\x2c\x01", 1, 2, 0, api.ErrShort},
		{"\x2c\x01", 1, 1, 1, api.OK},
		{"xx\x2c\x01xx", 2, 2, 300, api.OK},
		{"\x01\x02\x03\x04\x05\x06", 0, 6, 0x060504030201, api.OK},
		{"\x01\x02\x03\x04\x05\x06", 1, 5, 0x0605040302, api.OK},
		{"\xff\xff\xff\xff\xff\xff", 0, 6, 1<<48 - 1, api.OK},
		{"", 0, 1, 0, api.ErrShort},
	} {
		n, e := pack.Get(c.s, c.at, c.width)
		wantNumber(t, "Get", n, e, c.want, c.e)
	}
}

// 1.1: places below 0, at the end and past it, however far.
func TestGetPlaces(t *testing.T) {
	const s = "\x01\x02\x03\x04\x05\x06\x07"
	for _, w := range widths {
		last := len(s) - w
		if n, e := pack.Get(s, last, w); e != api.OK || n>>(8*(w-1)) != 7 {
			t.Errorf("Get of the last %d bytes: got %d, error %d", w, n, e)
		}
		for _, at := range []int{-1, -w, -len(s), last + 1, len(s), len(s) + 1, math.MaxInt - w, math.MaxInt, math.MinInt, math.MinInt + w} {
			n, e := pack.Get(s, at, w)
			wantNumber(t, "Get at a wrong place", n, e, 0, api.ErrShort)
		}
	}
}

// 1.1: a wrong width is told ahead of bytes that lack.
func TestGetWidths(t *testing.T) {
	for _, w := range wrongWidths {
		for _, at := range []int{0, 3, -1, 100, math.MaxInt, math.MinInt} {
			n, e := pack.Get("abcdefgh", at, w)
			wantNumber(t, "Get of a wrong width", n, e, 0, api.ErrArg)
		}
	}
}

// 1.1: Get of Put is the number, Put of Get is the bytes.
func TestPutGet(t *testing.T) {
	for _, w := range widths {
		for bit := range 8 * w {
			n := 1<<bit | 1
			s, e := pack.Put(n, w)
			if e != api.OK || len(s) != w {
				t.Fatalf("Put(%d, %d): %q, error %d", n, w, s, e)
			}
			back, e := pack.Get(s, 0, w)
			wantNumber(t, "Get of Put", back, e, n, api.OK)
		}
	}
}

// 1.2.
func TestPad(t *testing.T) {
	full := strings.Repeat("x", 4096)
	for _, c := range []struct {
		s    string
		n    int
		want string
		e    api.Errno
	}{
		{"a", 3, "a\x00\x00", api.OK},
		{"abc", 3, "abc", api.OK},
		{"a\x00b", 5, "a\x00b\x00\x00", api.OK},
		{"", 0, "", api.OK},
		{"", 1, "\x00", api.OK},
		{"", 4096, zeros(4096), api.OK},
		{"a", 4096, "a" + zeros(4095), api.OK},
		{full, 4096, full, api.OK},
		{"a", 0, "", api.ErrLong},
		{"abcd", 3, "", api.ErrLong},
		{full + "x", 4096, "", api.ErrLong},
		{full, 4095, "", api.ErrLong},
		{"", 4097, "", api.ErrArg},
		{full + "x", 4097, "", api.ErrArg},
		{full + "xx", 4097, "", api.ErrArg},
		{"", -1, "", api.ErrArg},
		{"a", -1, "", api.ErrArg},
		{"a", math.MaxInt, "", api.ErrArg},
		{"a", math.MinInt, "", api.ErrArg},
	} {
		s, e := pack.Pad(c.s, c.n)
		wantText(t, "Pad", s, e, c.want, c.e)
	}
}
