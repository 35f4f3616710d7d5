package pack_test

import (
	"math"
	"strings"
	"testing"
	"unsafe"

	"grapnel/api"
	"grapnel/pack"
)

// kind is a kind of record, its Go type put away: again is a text read and written anew, blank whether the record is its zero value.
type kind struct {
	name  string
	size  int
	again func(s string) (out string, blank bool, e api.Errno)
	whole []string // texts that are such records
}

// anew makes a kind's again out of its two functions.
func anew[T comparable](of func(string) (T, api.Errno), to func(T) (string, api.Errno)) func(string) (string, bool, api.Errno) {
	return func(s string) (string, bool, api.Errno) {
		var zero T
		x, e := of(s)
		out, f := to(x)
		if e == api.OK && f != api.OK {
			return "a record that can't be written", x == zero, e
		}
		return out, x == zero, e
	}
}

var (
	headText  = "GRPN" + "\x01\x02\x03\x04\x05\x06" + "\x11\x12\x13\x14" + "\x21\x22" + "\x31\x32\x33\x34" + "\x41\x42\x43\x44" + "\x51\x52\x53\x54" + "\x61\x62\x63\x64\x65\x66" + "\x71\x72\x73\x74\x75\x76" + zeros(8)
	inodeText = "\x02\x00" + "\x01\x02\x03\x04" + "\x11\x12\x13\x14\x15\x16" + "\x21\x22\x23\x24" +
		"\x01\x00\x00\x80" + "\x02\x00\x00\x80" + "\x03\x00\x00\x80" + "\x04\x00\x00\x80" + "\x05\x00\x00\x80" + "\x06\x00\x00\x80" +
		"\x07\x00\x00\x80" + "\x08\x00\x00\x80" + "\x09\x00\x00\x80" + "\x0a\x00\x00\x80" + "\x0b\x00\x00\x80" + "\x0c\x00\x00\x80" +
		"\x31\x32\x33\x34" + "\x41\x42\x43\x44" + zeros(376)
	rootText  = "0123456789abcdefghijklmnopqrstuv"
	superText = "\x01\x02\x03\x04\x05\x06" + "\x11\x12\x13\x14\x15\x16" + "\x21\x22\x23\x24\x25\x26" + "\x31\x32\x33\x34" + rootText + zeros(394)
	entryText = "\x01\x61" + zeros(18) + "\x03\x00\x00\x00" + "\x01\x00\x00\x00"
	longName  = "nineteen bytes long"
	longText  = "\x13" + longName + "\x01\x02\x03\x04" + "\x11\x12\x13\x14"
)

var (
	headRecord  = api.Head{Volume: 0x060504030201, Address: 0x14131211, Kind: 0x2221, Ino: 0x34333231, Gen: 0x44434241, Index: 0x54535251, Version: 0x666564636261, Salt: 0x767574737271}
	inodeRecord = api.Inode{Kind: api.Dir, Links: 0x04030201, Size: 0x161514131211, Parent: 0x24232221,
		Direct: [12]int{0x80000001, 0x80000002, 0x80000003, 0x80000004, 0x80000005, 0x80000006, 0x80000007, 0x80000008, 0x80000009, 0x8000000a, 0x8000000b, 0x8000000c},
		Single: 0x34333231, Double: 0x44434241}
	superRecord = api.Super{Volume: 0x060504030201, Epoch: 0x161514131211, Next: 0x262524232221, Live: 0x34333231, Root: rootText}
)

func kinds() []kind {
	return []kind{
		{"head", 48, anew(pack.HeadOf, pack.Head), []string{headText, "GRPN" + zeros(44)}},
		{"inode", 448, anew(pack.InodeOf, pack.Inode), []string{inodeText, zeros(448)}},
		{"entry", 28, anew(pack.EntryOf, pack.Entry), []string{entryText, longText, zeros(28), "\x02a" + zeros(26)}},
		{"superblock", 448, anew(pack.SuperOf, pack.Super), []string{superText, zeros(448)}},
	}
}

// wantError asks for an error of a reader, and for nothing beside it.
func wantError(t *testing.T, k kind, s string, want api.Errno) {
	t.Helper()
	if _, blank, e := k.again(s); e != want || !blank {
		t.Errorf("%s of %q: error %d, record blank %t; want error %d", k.name, s, e, blank, want)
	}
}

// with is s, its byte at the place at another one.
func with(s string, at int, b byte) string { return s[:at] + string([]byte{b}) + s[at+1:] }

// 1.3, 1.4: each field in its place, lowest byte first.
func TestLayout(t *testing.T) {
	s, e := pack.Head(headRecord)
	wantText(t, "Head", s, e, headText, api.OK)
	if h, e := pack.HeadOf(headText); h != headRecord || e != api.OK {
		t.Errorf("HeadOf: %v, error %d", h, e)
	}
	s, e = pack.Inode(inodeRecord)
	wantText(t, "Inode", s, e, inodeText, api.OK)
	if i, e := pack.InodeOf(inodeText); i != inodeRecord || e != api.OK {
		t.Errorf("InodeOf: %v, error %d", i, e)
	}
	s, e = pack.Super(superRecord)
	wantText(t, "Super", s, e, superText, api.OK)
	if x, e := pack.SuperOf(superText); x != superRecord || e != api.OK {
		t.Errorf("SuperOf: %v, error %d", x, e)
	}
}

// 1.3, 1.4: entries, with the chapter's examples 2 and 3.
func TestEntries(t *testing.T) {
	for _, c := range []struct {
		x api.Entry
		s string
	}{
		{api.Entry{Name: "a", Ino: 3, Gen: 1}, entryText},
		{api.Entry{}, zeros(28)},
		{api.Entry{Name: longName, Ino: 0x04030201, Gen: 0x14131211}, longText},
		{api.Entry{Name: "ab"}, "\x02ab" + zeros(25)},
		{api.Entry{Name: "\x00", Ino: 1}, "\x01" + zeros(19) + "\x01" + zeros(7)},
		{api.Entry{Name: "a\x00", Gen: 1}, "\x02a" + zeros(22) + "\x01" + zeros(3)},
		{api.Entry{Name: "/\xff\n", Ino: 1, Gen: 1}, "\x03/\xff\n" + zeros(16) + "\x01\x00\x00\x00\x01\x00\x00\x00"},
	} {
		s, e := pack.Entry(c.x)
		wantText(t, "Entry", s, e, c.s, api.OK)
		if x, e := pack.EntryOf(c.s); x != c.x || e != api.OK {
			t.Errorf("EntryOf(%q): %v, error %d; want %v", c.s, x, e, c.x)
		}
	}
}

// 1.3: an entry's errors, in their order.
func TestEntryErrors(t *testing.T) {
	for _, c := range []struct {
		x api.Entry
		e api.Errno
	}{
		{api.Entry{Name: longName + "s"}, api.ErrLong},
		{api.Entry{Name: longName + "s", Ino: -1, Gen: 1 << 32}, api.ErrLong},
		{api.Entry{Name: strings.Repeat("n", 300), Ino: 1}, api.ErrLong},
		{api.Entry{Ino: 1}, api.ErrForm},
		{api.Entry{Gen: 1}, api.ErrForm},
		{api.Entry{Ino: -1}, api.ErrForm},
		{api.Entry{Gen: 1 << 32}, api.ErrForm},
		{api.Entry{Name: "a", Ino: -1}, api.ErrRange},
		{api.Entry{Name: "a", Gen: -1}, api.ErrRange},
		{api.Entry{Name: "a", Ino: 1 << 32, Gen: 1}, api.ErrRange},
		{api.Entry{Name: longName, Ino: 1, Gen: math.MaxInt}, api.ErrRange},
	} {
		s, e := pack.Entry(c.x)
		wantText(t, "Entry", s, e, "", c.e)
	}
	x := api.Entry{Name: "a", Ino: 1<<32 - 1, Gen: 1<<32 - 1}
	s, e := pack.Entry(x)
	wantText(t, "Entry of the greatest numbers", s, e, "\x01a"+zeros(18)+strings.Repeat("\xff", 8), api.OK)
}

// wantWidth asks that a record takes a field up to its width's bound, and nothing beyond.
func wantWidth(t *testing.T, what string, width int, put func(n int) (string, api.Errno)) {
	t.Helper()
	beyond := 1 << (8 * width)
	for _, n := range []int{0, 1, beyond - 1} {
		if s, e := put(n); e != api.OK || s == "" {
			t.Errorf("%s %d: error %d", what, n, e)
		}
	}
	for _, n := range []int{beyond, beyond + 1, -1, math.MaxInt, math.MinInt} {
		s, e := put(n)
		wantText(t, what, s, e, "", api.ErrRange)
	}
}

// 1.3.
func TestHeadWidths(t *testing.T) {
	for _, c := range []struct {
		name  string
		width int
		field func(h *api.Head) *int
	}{
		{"Volume", 6, func(h *api.Head) *int { return &h.Volume }},
		{"Address", 4, func(h *api.Head) *int { return &h.Address }},
		{"Kind", 2, func(h *api.Head) *int { return &h.Kind }},
		{"Ino", 4, func(h *api.Head) *int { return &h.Ino }},
		{"Gen", 4, func(h *api.Head) *int { return &h.Gen }},
		{"Index", 4, func(h *api.Head) *int { return &h.Index }},
		{"Version", 6, func(h *api.Head) *int { return &h.Version }},
		{"Salt", 6, func(h *api.Head) *int { return &h.Salt }},
	} {
		wantWidth(t, "Head of "+c.name, c.width, func(n int) (string, api.Errno) {
			h := headRecord
			*c.field(&h) = n
			return pack.Head(h)
		})
	}
}

// 1.3.
func TestInodeWidths(t *testing.T) {
	for _, c := range []struct {
		name  string
		width int
		field func(i *api.Inode) *int
	}{
		{"Links", 4, func(i *api.Inode) *int { return &i.Links }},
		{"Size", 6, func(i *api.Inode) *int { return &i.Size }},
		{"Parent", 4, func(i *api.Inode) *int { return &i.Parent }},
		{"Single", 4, func(i *api.Inode) *int { return &i.Single }},
		{"Double", 4, func(i *api.Inode) *int { return &i.Double }},
	} {
		wantWidth(t, "Inode of "+c.name, c.width, func(n int) (string, api.Errno) {
			i := inodeRecord
			*c.field(&i) = n
			return pack.Inode(i)
		})
	}
	for at := range api.Direct {
		wantWidth(t, "Inode of Direct", 4, func(n int) (string, api.Errno) {
			i := inodeRecord
			i.Direct[at] = n
			return pack.Inode(i)
		})
	}
}

// 1.3, 1.4: the kinds of inodes, and no others.
func TestInodeKinds(t *testing.T) {
	for _, n := range []int{api.Free, api.File, api.Dir, api.Sym} {
		s, e := pack.Inode(api.Inode{Kind: n})
		wantText(t, "Inode", s, e, with(zeros(448), 0, byte(n)), api.OK)
		if i, e := pack.InodeOf(s); i != (api.Inode{Kind: n}) || e != api.OK {
			t.Errorf("InodeOf of the kind %d: %v, error %d", n, i, e)
		}
	}
	for _, n := range []int{4, 5, 255, 256, 65535, 65536, -1, math.MaxInt, math.MinInt} {
		s, e := pack.Inode(api.Inode{Kind: n})
		wantText(t, "Inode of another kind", s, e, "", api.ErrRange)
	}
	for _, lead := range []string{"\x04\x00", "\xff\x00", "\x00\x01", "\x01\x01", "\xff\xff"} {
		wantError(t, kinds()[1], lead+inodeText[2:], api.ErrForm)
	}
}

// 1.3.
func TestSuperWidths(t *testing.T) {
	for _, c := range []struct {
		name  string
		width int
		field func(s *api.Super) *int
	}{
		{"Volume", 6, func(s *api.Super) *int { return &s.Volume }},
		{"Epoch", 6, func(s *api.Super) *int { return &s.Epoch }},
		{"Next", 6, func(s *api.Super) *int { return &s.Next }},
		{"Live", 4, func(s *api.Super) *int { return &s.Live }},
	} {
		wantWidth(t, "Super of "+c.name, c.width, func(n int) (string, api.Errno) {
			s := superRecord
			*c.field(&s) = n
			return pack.Super(s)
		})
	}
}

// 1.3: a root of another length is told ahead of a number without room.
func TestSuperRoots(t *testing.T) {
	for _, n := range []int{0, 1, 16, 31, 33, 64, 448, 5000} {
		for _, volume := range []int{0, -1, 1 << 48} {
			s, e := pack.Super(api.Super{Volume: volume, Root: strings.Repeat("r", n)})
			wantText(t, "Super of a root of another length", s, e, "", api.ErrArg)
		}
	}
}

// 1.4: too long and too short are told ahead of the form, at every length.
func TestLengths(t *testing.T) {
	for _, k := range kinds() {
		texts := append(k.whole, strings.Repeat("\xff", k.size), strings.Repeat("x", k.size))
		for _, s := range texts {
			for n := range k.size {
				wantError(t, k, s[:n], api.ErrShort)
			}
			for _, more := range []string{"\x00", "x", zeros(4096), s} {
				wantError(t, k, s+more, api.ErrLong)
			}
		}
		wantError(t, k, strings.Repeat("\xff", k.size), api.ErrForm)
	}
}

// 1.4: each byte that must be another one.
func TestForms(t *testing.T) {
	for _, c := range []struct {
		kind, from, to int // the bytes that must stand as they do
	}{
		{0, 0, 4}, {0, 40, 48}, {1, 72, 448}, {3, 54, 448},
	} {
		k := kinds()[c.kind]
		for _, s := range k.whole {
			for at := c.from; at < c.to; at++ {
				for _, b := range []byte{0, 1, 0x80, 0xff, 'G', 'g'} {
					if s[at] != b {
						wantError(t, k, with(s, at, b), api.ErrForm)
					}
				}
			}
		}
	}
	for _, s := range []string{"grpn", "GRP\x00", "NPRG", zeros(4)} {
		wantError(t, kinds()[0], s+headText[4:], api.ErrForm)
	}
}

// 1.4.
func TestEntryForms(t *testing.T) {
	k := kinds()[2]
	for _, s := range []string{
		"\x14" + longText[1:],                 // more than 19 bytes of a name
		"\xff" + longText[1:],                 // far more
		"\x12" + longText[1:],                 // a name behind the name
		"\x00" + entryText[1:],                // the name of none
		with(entryText, 19, 1),                // a last byte of the name's place
		with(entryText, 2, 'b'),               // a first one behind the name
		with(zeros(28), 1, 'a'),               // bytes without a length
		with(zeros(28), 20, 1),                // an inode without a name
		with(zeros(28), 23, 1),                // a great one
		with(zeros(28), 24, 1),                // a generation without a name
		zeros(20) + strings.Repeat("\xff", 8), // both
	} {
		wantError(t, k, s, api.ErrForm)
	}
}

// 1.5: of all texts that lie one byte beside a record each is another record, whose bytes it is, or none.
func TestNoTwoTextsAreOneRecord(t *testing.T) {
	for _, k := range kinds() {
		for _, s := range k.whole {
			for at := range k.size {
				for b := range 256 {
					x := with(s, at, byte(b))
					out, blank, e := k.again(x)
					switch {
					case e == api.OK && out != x:
						t.Fatalf("%s of %q is written as %q", k.name, x, out)
					case e != api.OK && (e != api.ErrForm || !blank):
						t.Fatalf("%s of %q: error %d, record blank %t", k.name, x, e, blank)
					}
				}
			}
		}
	}
}

// 1.5: what is read of a record is written as just its bytes.
func TestReadAndWritten(t *testing.T) {
	for _, k := range kinds() {
		for _, s := range k.whole {
			out, _, e := k.again(s)
			wantText(t, k.name, out, e, s, api.OK)
		}
	}
}

// R3: no answer lies in the memory of what was handed in.
func TestNewMemory(t *testing.T) {
	inside := func(part, whole string) bool {
		at := uintptr(unsafe.Pointer(unsafe.StringData(part)))
		from := uintptr(unsafe.Pointer(unsafe.StringData(whole)))
		return at >= from && at < from+uintptr(len(whole))
	}
	if x, _ := pack.EntryOf(longText); inside(x.Name, longText) {
		t.Error("EntryOf answers a piece of what it was given")
	}
	if x, _ := pack.SuperOf(superText); inside(x.Root, superText) {
		t.Error("SuperOf answers a piece of what it was given")
	}
	if s, _ := pack.Pad(rootText, len(rootText)); inside(s, rootText) {
		t.Error("Pad answers what it was given")
	}
}

// P1, R1: whatever the text, a reader answers, and nothing beside an error.
func TestReadersAnswer(t *testing.T) {
	for _, k := range kinds() {
		for n := range 600 {
			for _, fill := range []string{"\x00", "\x01", "\xff", "G", "GRPN"} {
				s := strings.Repeat(fill, n)[:n]
				out, blank, e := k.again(s)
				switch {
				case n > k.size:
					wantError(t, k, s, api.ErrLong)
				case n < k.size:
					wantError(t, k, s, api.ErrShort)
				case e == api.OK && out != s || e != api.OK && !blank:
					t.Errorf("%s of %q: %q, error %d", k.name, s, out, e)
				}
			}
		}
	}
}
