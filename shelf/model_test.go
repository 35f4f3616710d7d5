package shelf_test

import (
	"encoding/binary"
	"math"
	"slices"
	"strconv"
	"strings"
	"testing"
	"unsafe"

	"grapnel/api"
	"grapnel/shelf"
)

var (
	longest = strings.Repeat("n", 19)
	tooLong = strings.Repeat("n", 20)
	zeros   = strings.Repeat("\x00", 448)
)

// entries is entries that a block may hold: chapter 1 bounds a name's length alone, so names that no path has are among them.
var entries = []api.Entry{
	{},
	{Name: "a", Ino: 3, Gen: 1},
	{Name: "b"},
	{Name: longest, Ino: 1<<32 - 1, Gen: 1<<32 - 1},
	{Name: longest[1:], Ino: 256, Gen: 65536},
	{Name: "..", Ino: 1},
	{Name: "a/b", Gen: 1},
	{Name: "\x00", Ino: 7, Gen: 8},
	{Name: "a\x00", Ino: 9, Gen: 10},
	{Name: "\xff\x80 é", Ino: 1 << 31, Gen: 1 << 24},
}

// wrongEntry is an entry that no block holds, and its error.
type wrongEntry struct {
	x api.Entry
	e api.Errno
}

var wrongEntries = []wrongEntry{
	{api.Entry{Name: tooLong}, 4},
	{api.Entry{Name: strings.Repeat("n", 300), Ino: 1, Gen: 1}, 4},
	{api.Entry{Name: tooLong, Ino: -1, Gen: 1 << 32}, 4},
	{api.Entry{Ino: 1}, 5},
	{api.Entry{Gen: 1}, 5},
	{api.Entry{Ino: -1, Gen: 1 << 32}, 5},
	{api.Entry{Name: "a", Ino: -1}, 2},
	{api.Entry{Name: "a", Gen: -1}, 2},
	{api.Entry{Name: "a", Ino: 1 << 32}, 2},
	{api.Entry{Name: "a", Gen: 1 << 32}, 2},
	{api.Entry{Name: longest, Ino: math.MaxInt, Gen: math.MinInt}, 2},
}

// bytesOf is an entry as bytes, by Go's own package.
func bytesOf(x api.Entry) string {
	b := make([]byte, 20, 28)
	b[0] = byte(len(x.Name))
	copy(b[1:], x.Name)
	b = binary.LittleEndian.AppendUint32(b, uint32(x.Ino))
	b = binary.LittleEndian.AppendUint32(b, uint32(x.Gen))
	return string(b)
}

// bodyOf is entries as bytes, one behind the other.
func bodyOf(l []api.Entry) string {
	s := ""
	for _, x := range l {
		s += bytesOf(x)
	}
	return s
}

// sixteen is slots of which each has a name and numbers of its own.
func sixteen() []api.Entry {
	l := make([]api.Entry, 16)
	for i := range l {
		l[i] = api.Entry{Name: "n" + strconv.Itoa(i), Ino: 3 + i, Gen: 100 + i}
	}
	return l
}

// pages is lists of sixteen slots that a block may hold: one of a kind at each place among free ones and among others, all alike, and all unlike.
func pages() [][]api.Entry {
	var out [][]api.Entry
	for _, x := range entries {
		out = append(out, slices.Repeat([]api.Entry{x}, 16))
		for i := range 16 {
			one, another := make([]api.Entry, 16), sixteen()
			one[i], another[i] = x, x
			out = append(out, one, another)
		}
	}
	return append(out, sixteen())
}

// rows is every list of at most so many of these.
func rows(of []api.Entry, most int) [][]api.Entry {
	all := [][]api.Entry{nil}
	for from := 0; most > 0; most-- {
		to := len(all)
		for _, l := range all[from:to] {
			for _, x := range of {
				all = append(all, append(slices.Clone(l), x))
			}
		}
		from = to
	}
	return all
}

// named is entries of these names.
func named(names ...string) []api.Entry {
	var l []api.Entry
	for i, name := range names {
		x := api.Entry{Name: name}
		if name != "" {
			x.Ino, x.Gen = 3+i, 1+i
		}
		l = append(l, x)
	}
	return l
}

// sameMemory tells whether a text's memory lies in another one's.
func sameMemory(part, whole string) bool {
	at, from := uintptr(unsafe.Pointer(unsafe.StringData(part))), uintptr(unsafe.Pointer(unsafe.StringData(whole)))
	return at >= from && at < from+uintptr(len(whole))
}

func wantPage(t *testing.T, body string, want []api.Entry, wantError api.Errno) {
	t.Helper()
	if l, e := shelf.Page(body); !slices.Equal(l, want) || e != wantError {
		t.Errorf("Page(%q): %v, error %d; want %v, error %d", body, l, e, want, wantError)
	}
}

func wantBody(t *testing.T, l []api.Entry, want string, wantError api.Errno) {
	t.Helper()
	if s, e := shelf.Body(l); s != want || e != wantError {
		t.Errorf("Body(%v): %q, error %d; want %q, error %d", l, s, e, want, wantError)
	}
}

// R3: no call changes a list that is handed in, nor what lies behind its end; what lies there is not looked at, either.
func TestListsStay(t *testing.T) {
	l := append(sixteen(), entries...)
	for _, wrong := range wrongEntries {
		l = append(l, wrong.x)
	}
	l = append(l, named("behind", "behind")...)
	was := slices.Clone(l)
	for n := range len(l) - 1 {
		shelf.Body(l[:n])
		if at := shelf.Find(l[:n], "behind"); at != -1 {
			t.Fatalf("Find in %d slots: %d, behind their end", n, at)
		}
		shelf.Find(l[:n], "a")
		shelf.Spare(l[:n])
		shelf.Names(l[:n])
		shelf.Right(l[:n])
		if !slices.Equal(l, was) {
			t.Fatalf("the first %d of %v: left %v", n, was, l)
		}
	}
}
